/- The chapter's examples: the statements' function alive returns true. -/
import Derived.Test.YthdnnkocbpkncaaDoorJ
import Derived.Test.YthdnnkocbpkncaaDoorK
set_option linter.unusedVariables false
namespace Go.Proofs.YthdnnkocbpkncaaDoor
open Go.RowKit

def S0 : ByteArray := str (Sh.sum [])
def S1 : ByteArray := str (Sh.sum [97, 98, 99])
theorem S0_size : S0.size = 32 := by
  rw [← nats_length]; unfold S0; rw [nats_str (Sh.sum []) (Sh.digest_small _)]; exact Sh.sum_length _
theorem S1_size : S1.size = 32 := by
  rw [← nats_length]; unfold S1; rw [nats_str (Sh.sum [97, 98, 99]) (Sh.digest_small _)]; exact Sh.sum_length _
theorem hexS0 : str (hexN (nats S0)) = ⟨#[101, 51, 98, 48, 99, 52, 52, 50, 57, 56, 102, 99, 49, 99, 49, 52, 57, 97, 102, 98, 102, 52, 99, 56, 57, 57, 54, 102, 98, 57, 50, 52, 50, 55, 97, 101, 52, 49, 101, 52, 54, 52, 57, 98, 57, 51, 52, 99, 97, 52, 57, 53, 57, 57, 49, 98, 55, 56, 53, 50, 98, 56, 53, 53]⟩ := by
  unfold S0
  rw [nats_str (Sh.sum []) (Sh.digest_small _), Sh.sum_nothing]
  rfl
theorem hexS1 : str (hexN (nats S1)) = ⟨#[98, 97, 55, 56, 49, 54, 98, 102, 56, 102, 48, 49, 99, 102, 101, 97, 52, 49, 52, 49, 52, 48, 100, 101, 53, 100, 97, 101, 50, 50, 50, 51, 98, 48, 48, 51, 54, 49, 97, 51, 57, 54, 49, 55, 55, 97, 57, 99, 98, 52, 49, 48, 102, 102, 54, 49, 102, 50, 48, 48, 49, 53, 97, 100]⟩ := by
  unfold S1
  rw [nats_str (Sh.sum [97, 98, 99]) (Sh.digest_small _), Sh.sum_abc]
  rfl
theorem a1 (w : World) (hk : Keyed w) : Calls Tryd.prog 6 #[.string ⟨#[]⟩] w fun e w' => e = .returned (.string S0) ∧ Below w.heap.size w w' := sum_any ⟨#[]⟩ w hk (by decide)
theorem a2 (w : World) (hk : Keyed w) : Calls Tryd.prog 6 #[.string ⟨#[97, 98, 99]⟩] w fun e w' => e = .returned (.string S1) ∧ Below w.heap.size w w' := sum_any ⟨#[97, 98, 99]⟩ w hk (by decide)
theorem a3 (w : World) : Calls Tryd.prog 17 #[.string S0] w fun e w' => e = .returned (.string ⟨#[101, 51, 98, 48, 99, 52, 52, 50, 57, 56, 102, 99, 49, 99, 49, 52, 57, 97, 102, 98, 102, 52, 99, 56, 57, 57, 54, 102, 98, 57, 50, 52, 50, 55, 97, 101, 52, 49, 101, 52, 54, 52, 57, 98, 57, 51, 52, 99, 97, 52, 57, 53, 57, 57, 49, 98, 55, 56, 53, 50, 98, 56, 53, 53]⟩) ∧ Below w.heap.size w w' := by
  have h := rhex_any S0 (by rw [S0_size]; decide) w
  rw [hexS0] at h
  exact h
theorem a4 (w : World) : Calls Tryd.prog 17 #[.string S1] w fun e w' => e = .returned (.string ⟨#[98, 97, 55, 56, 49, 54, 98, 102, 56, 102, 48, 49, 99, 102, 101, 97, 52, 49, 52, 49, 52, 48, 100, 101, 53, 100, 97, 101, 50, 50, 50, 51, 98, 48, 48, 51, 54, 49, 97, 51, 57, 54, 49, 55, 55, 97, 57, 99, 98, 52, 49, 48, 102, 102, 54, 49, 102, 50, 48, 48, 49, 53, 97, 100]⟩) ∧ Below w.heap.size w w' := by
  have h := rhex_any S1 (by rw [S1_size]; decide) w
  rw [hexS1] at h
  exact h
theorem a5 (g : Nat) (w : World) (hk : Keyed w) (hg : g ≠ 0) (hh : HashOf w g []) :
    Calls Tryd.prog 10 #[.pointer (some ⟨g, 0, none⟩), .slice (some ⟨w.heap.size, 0, none⟩) 2 2] (w.alloc (.cells #[.string ⟨#[97]⟩, .string ⟨#[98, 99]⟩] 9)) fun e w' => e = .returned (.int .i64 0) ∧ HashOf w' g [97, 98, 99] ∧ (w.alloc (.cells #[.string ⟨#[97]⟩, .string ⟨#[98, 99]⟩] 9)).grownBy w' (some g) := by
  have hlt := hh.lt
  refine writes_any g _ [⟨#[97]⟩, ⟨#[98, 99]⟩] [] _ (hk.below ((Below.refl _ _).alloc (Nat.le_refl _) _)) hg (hh.below ((Below.refl w.heap.size w).alloc (Nat.le_refl _) _) hlt) ⟨_, _, rfl, .inr ⟨w.heap.size, 0, rfl, by simp, by omega, ?_⟩⟩ (by decide) (by decide)
  intro j hj
  have hnew : (w.alloc (.cells #[.string ⟨#[97]⟩, .string ⟨#[98, 99]⟩] 9)).heap[w.heap.size]? = some (.cells #[.string ⟨#[97]⟩, .string ⟨#[98, 99]⟩] 9 (0, 0)) := heap_alloc_new w _
  rw [cell_of_row _ _ _ _ _ _ hnew]
  rcases j with _ | _ | j
  · rfl
  · rfl
  · exact absurd hj (by simp)
theorem a6 (g : Nat) (w : World) (hk : Keyed w) (hh : HashOf w g [97, 98, 99]) : Calls Tryd.prog 12 #[.pointer (some ⟨g, 0, none⟩)] w fun e w' => e = .returned (.string S1) ∧ Below w.heap.size w w' := hsum_any g _ w hk hh (by decide)

set_option maxHeartbeats 2000000 in
set_option maxRecDepth 100000 in
theorem alive_any (w : World) (hk : Keyed w) : Calls Tryd.prog 8 #[] w fun e w' => e = .returned (.bool true) ∧ Below w.heap.size w w' := by
  have HK := Lib.hid hk
  clear hk
  go_enter Tryd.func8, Tryd.ntmps8
  go_wp2_with fail
  refine (new_any _).mono ?_; rintro e w1 ⟨g, rfl, hg, hh, hb⟩
  have HK1 := Lib.hid (HK.out.below hb)
  have HG : Hid (g ≠ 0) := Lib.hid (by have := HK.out.1; omega)
  have HH1 := Lib.hid hh
  have HGE := Lib.hid hg
  clear hh hg
  go_wp2_with fail
  have hbs := hb.size
  have h5 := Lib.hid (a5 g w1 HK1.out HG.out HH1.out)
  have hb' : Below w.heap.size w (w1.alloc (.cells #[.string ⟨#[97]⟩, .string ⟨#[98, 99]⟩] 9)) := hb.alloc hb.size _
  have HK1' : Hid (Keyed (w1.alloc (.cells #[.string ⟨#[97]⟩, .string ⟨#[98, 99]⟩] 9))) := Lib.hid (HK.out.below hb')
  refine h5.out.mono ?_; rintro e w2 ⟨rfl, hh2, hg2⟩
  have HK2 := Lib.hid (HK1'.out.grown hg2 HG.out)
  have hb2 := Below.ofGrown hb' hg2 HGE.out hb'.size
  have HH2 := Lib.hid hh2
  clear hb hb' hbs HH1 HK1 HK1' h5 hh2 hg2
  go_wp2_with fail
  refine (a1 _ HK2.out).mono ?_; rintro e w3 ⟨rfl, q⟩
  have HK3 := Lib.hid (HK2.out.below q)
  have HH3 := Lib.hid (HH2.out.below q HH2.out.lt)
  replace hb2 := hb2.trans (q.mono hb2.size); clear q HK2 HH2
  go_wp2_with fail
  refine (a3 _).mono ?_; rintro e w4 ⟨rfl, q⟩
  have HK4 := Lib.hid (HK3.out.below q)
  have HH4 := Lib.hid (HH3.out.below q HH3.out.lt)
  replace hb2 := hb2.trans (q.mono hb2.size); clear q HK3 HH3
  go_wp2_with fail
  refine (a2 _ HK4.out).mono ?_; rintro e w5 ⟨rfl, q⟩
  have HK5 := Lib.hid (HK4.out.below q)
  have HH5 := Lib.hid (HH4.out.below q HH4.out.lt)
  replace hb2 := hb2.trans (q.mono hb2.size); clear q HK4 HH4
  go_wp2_with fail
  refine (a4 _).mono ?_; rintro e w6 ⟨rfl, q⟩
  have HK6 := Lib.hid (HK5.out.below q)
  have HH6 := Lib.hid (HH5.out.below q HH5.out.lt)
  replace hb2 := hb2.trans (q.mono hb2.size); clear q HK5 HH5
  go_wp2_with fail
  refine (a6 g _ HK6.out HH6.out).mono ?_; rintro e w7 ⟨rfl, q⟩
  have HK7 := Lib.hid (HK6.out.below q)
  have HH7 := Lib.hid (HH6.out.below q HH6.out.lt)
  replace hb2 := hb2.trans (q.mono hb2.size); clear q HK6 HH6
  go_wp2_with fail
  refine (a2 _ HK7.out).mono ?_; rintro e w8 ⟨rfl, q⟩
  have HK8 := Lib.hid (HK7.out.below q)
  have HH8 := Lib.hid (HH7.out.below q HH7.out.lt)
  replace hb2 := hb2.trans (q.mono hb2.size); clear q HK7 HH7
  go_wp2_with fail
  refine (len_any g _ _ HH8.out).mono ?_; rintro e w9 ⟨rfl, rfl⟩
  go_wp2
  go_ret
  exact ⟨rfl, hb2⟩
end Go.Proofs.YthdnnkocbpkncaaDoor
