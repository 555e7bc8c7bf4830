/- The chapter's example: the statements' function alive returns true. -/
import Derived.Test.YtkomfgoloepekaaDoorMG
import Derived.Test.YtkomfgoloepekaaDoorJ
import Derived.Test.YtkomfgoloepekaaDoorK
set_option linter.unusedVariables false
namespace Go.Proofs.YtkomfgoloepekaaDoor
open Go.RowKit

def S0 : ByteArray := str Mc.s0
theorem nJ : nats ⟨#[74, 101, 102, 101]⟩ = Mc.jefe := rfl
theorem nWH : nats ⟨#[119, 104, 97, 116, 32, 100, 111, 32, 121, 97, 32, 119, 97, 110, 116, 32, 102, 111, 114, 32, 110, 111, 116, 104, 105, 110, 103, 63]⟩ = Mc.want ++ Mc.noth ++ [63] := rfl
theorem nLE : nats ⟨#[119, 104, 97, 116, 32, 100, 111, 32, 121, 97, 32, 119, 97, 110, 116, 32, 102, 111, 114, 32, 110, 111, 116, 104, 105, 110, 103]⟩ = Mc.want ++ Mc.noth := rfl
theorem s0_small : ∀ x ∈ Mc.s0, x < 256 := by decide
theorem S0_size : S0.size = 32 := by unfold S0; rw [size_str]; rfl
theorem S0_mac : S0 = str (Mc.mac (nats ⟨#[74, 101, 102, 101]⟩) (nats ⟨#[119, 104, 97, 116, 32, 100, 111, 32, 121, 97, 32, 119, 97, 110, 116, 32, 102, 111, 114, 32, 110, 111, 116, 104, 105, 110, 103, 63]⟩)) := by unfold S0; rw [nJ, nWH, Mc.mac_jefe]
theorem S0_not : str (Mc.mac (nats ⟨#[74, 101, 102, 101]⟩) (nats ⟨#[119, 104, 97, 116, 32, 100, 111, 32, 121, 97, 32, 119, 97, 110, 116, 32, 102, 111, 114, 32, 110, 111, 116, 104, 105, 110, 103]⟩)) ≠ S0 := by
  unfold S0; rw [nJ, nLE]
  intro h
  have h2 := congrArg nats h
  rw [nats_str _ (Mc.mac_small _ _), nats_str _ s0_small] at h2
  exact Mc.mac_less h2
theorem hexS0 : str (hexN (nats S0)) = ⟨#[53, 98, 100, 99, 99, 49, 52, 54, 98, 102, 54, 48, 55, 53, 52, 101, 54, 97, 48, 52, 50, 52, 50, 54, 48, 56, 57, 53, 55, 53, 99, 55, 53, 97, 48, 48, 51, 102, 48, 56, 57, 100, 50, 55, 51, 57, 56, 51, 57, 100, 101, 99, 53, 56, 98, 57, 54, 52, 101, 99, 51, 56, 52, 51]⟩ := by unfold S0; rw [nats_str _ s0_small]; rfl
theorem a2 (g h B : Nat) (w : World) (hk : Keyed w) (hB : 0 < B) (hBs : B ≤ w.heap.size) (hm : MacAt B w g h (nats ⟨#[74, 101, 102, 101]⟩) []) :
    Calls Tryd.prog 12 #[.pointer (some ⟨g, 0, none⟩), .slice (some ⟨w.heap.size, 0, none⟩) 2 2] (w.alloc (.cells #[.string ⟨#[119, 104, 97, 116, 32, 100, 111, 32, 121, 97, 32, 119, 97, 110, 116, 32]⟩, .string ⟨#[102, 111, 114, 32, 110, 111, 116, 104, 105, 110, 103, 63]⟩] 9)) fun e w' => e = .returned (.int .i64 0) ∧ MacAt B w' g h (nats ⟨#[74, 101, 102, 101]⟩) (nats ⟨#[119, 104, 97, 116, 32, 100, 111, 32, 121, 97, 32, 119, 97, 110, 116, 32, 102, 111, 114, 32, 110, 111, 116, 104, 105, 110, 103, 63]⟩) ∧ Below B w w' ∧ Keyed w' := by
  have hb : Below w.heap.size w (w.alloc (.cells #[.string ⟨#[119, 104, 97, 116, 32, 100, 111, 32, 121, 97, 32, 119, 97, 110, 116, 32]⟩, .string ⟨#[102, 111, 114, 32, 110, 111, 116, 104, 105, 110, 103, 63]⟩] 9)) := (Below.refl _ _).alloc (Nat.le_refl _) _
  have hlt := hm.hlt
  refine (mwrite_any B g h _ [⟨#[119, 104, 97, 116, 32, 100, 111, 32, 121, 97, 32, 119, 97, 110, 116, 32]⟩, ⟨#[102, 111, 114, 32, 110, 111, 116, 104, 105, 110, 103, 63]⟩] (nats ⟨#[74, 101, 102, 101]⟩) [] _ (hk.below hb) hB (Nat.le_trans hBs hb.size) (hm.below hb) ⟨_, _, rfl, .inr ⟨w.heap.size, 0, rfl, by simp, by omega, ?_⟩⟩ (by decide) (by decide)).mono fun e w' ⟨h1, h2, h3, h4⟩ => ⟨h1, h2, (hb.mono hBs).trans h3, h4⟩
  intro j hj
  have hnew : (w.alloc (.cells #[.string ⟨#[119, 104, 97, 116, 32, 100, 111, 32, 121, 97, 32, 119, 97, 110, 116, 32]⟩, .string ⟨#[102, 111, 114, 32, 110, 111, 116, 104, 105, 110, 103, 63]⟩] 9)).heap[w.heap.size]? = some (.cells #[.string ⟨#[119, 104, 97, 116, 32, 100, 111, 32, 121, 97, 32, 119, 97, 110, 116, 32]⟩, .string ⟨#[102, 111, 114, 32, 110, 111, 116, 104, 105, 110, 103, 63]⟩] 9 (0, 0)) := heap_alloc_new w _
  rw [cell_of_row _ _ _ _ _ _ hnew]
  rcases j with _ | _ | j
  · rfl
  · rfl
  · exact absurd hj (by simp)
theorem a3 (w : World) (hk : Keyed w) : Calls Tryd.prog 9 #[.string ⟨#[74, 101, 102, 101]⟩, .string ⟨#[119, 104, 97, 116, 32, 100, 111, 32, 121, 97, 32, 119, 97, 110, 116, 32, 102, 111, 114, 32, 110, 111, 116, 104, 105, 110, 103, 63]⟩] w fun e w' => e = .returned (.string S0) ∧ Below w.heap.size w w' := by
  rw [S0_mac]; exact macsum_any _ _ w hk (by decide) (by decide)
theorem a4 (w : World) : Calls Tryd.prog 15 #[.string S0] w fun e w' => e = .returned (.string ⟨#[53, 98, 100, 99, 99, 49, 52, 54, 98, 102, 54, 48, 55, 53, 52, 101, 54, 97, 48, 52, 50, 52, 50, 54, 48, 56, 57, 53, 55, 53, 99, 55, 53, 97, 48, 48, 51, 102, 48, 56, 57, 100, 50, 55, 51, 57, 56, 51, 57, 100, 101, 99, 53, 56, 98, 57, 54, 52, 101, 99, 51, 56, 52, 51]⟩) ∧ Below w.heap.size w w' := by
  have h := rhex_any S0 (by rw [S0_size]; decide) w
  rw [hexS0] at h
  exact h
theorem a5 (B g h : Nat) (w : World) (hk : Keyed w) (hm : MacAt B w g h (nats ⟨#[74, 101, 102, 101]⟩) (nats ⟨#[119, 104, 97, 116, 32, 100, 111, 32, 121, 97, 32, 119, 97, 110, 116, 32, 102, 111, 114, 32, 110, 111, 116, 104, 105, 110, 103, 63]⟩)) : Calls Tryd.prog 13 #[.pointer (some ⟨g, 0, none⟩)] w fun e w' => e = .returned (.string S0) ∧ Below w.heap.size w w' := by
  rw [S0_mac]; exact mmsum_any B g h _ _ w hk hm (nats_small _) (by decide)
theorem a6 (w : World) (hk : Keyed w) : Calls Tryd.prog 10 #[.string ⟨#[74, 101, 102, 101]⟩, .string ⟨#[119, 104, 97, 116, 32, 100, 111, 32, 121, 97, 32, 119, 97, 110, 116, 32, 102, 111, 114, 32, 110, 111, 116, 104, 105, 110, 103, 63]⟩, .string S0] w fun e w' => e = .returned (.bool true) ∧ Below w.heap.size w w' := maccheck_yes _ _ _ S0_mac w hk (by decide) (by decide)
theorem a7 (w : World) (hk : Keyed w) : Calls Tryd.prog 10 #[.string ⟨#[74, 101, 102, 101]⟩, .string ⟨#[119, 104, 97, 116, 32, 100, 111, 32, 121, 97, 32, 119, 97, 110, 116, 32, 102, 111, 114, 32, 110, 111, 116, 104, 105, 110, 103]⟩, .string S0] w fun e w' => e = .returned (.bool false) ∧ Below w.heap.size w w' := maccheck_no _ _ _ S0_not w hk (by decide) (by decide)

set_option maxHeartbeats 2000000 in
set_option maxRecDepth 100000 in
theorem alive_any (w : World) (hk : Keyed w) : Calls Tryd.prog 7 #[] w fun e w' => e = .returned (.bool true) ∧ Below w.heap.size w w' := by
  have HK := Lib.hid hk
  obtain ⟨B, hB⟩ : ∃ B, B = w.heap.size := ⟨_, rfl⟩
  have HB := Lib.hid hB
  have HN := Lib.hid (mnew_any ⟨#[74, 101, 102, 101]⟩ w hk (by decide))
  rw [← hB] at HN ⊢
  clear hk hB
  go_enter Tryd.func7, Tryd.ntmps7
  go_wp2_with fail
  refine HN.out.mono ?_; rintro e w1 ⟨g, h, rfl, hm, hb, hk1⟩
  have hBs : B ≤ w1.heap.size := by have := hb.size; have := HB.out; omega
  have h2 := Lib.hid (a2 g h B w1 hk1 (by rw [HB.out]; exact HK.out.1) hBs hm)
  clear hm hBs hk1 HN
  go_wp2_with fail
  refine h2.out.mono ?_; rintro e w2 ⟨rfl, hm, hb2, hk2⟩
  have HM2 := Lib.hid hm
  have HK2 := Lib.hid hk2
  replace hb := hb.trans hb2
  have hBs : B ≤ w2.heap.size := by have := hb.size; have := HB.out; omega
  clear hm hk2 hb2 h2
  go_wp2_with fail
  refine (a3 _ HK2.out).mono ?_; rintro e w3 ⟨rfl, q⟩
  have HK3 := Lib.hid (HK2.out.below q)
  have HM3 := Lib.hid (HM2.out.below q)
  replace hb := hb.trans (q.mono hBs); replace hBs := Nat.le_trans hBs q.size; clear q HK2 HM2
  go_wp2_with fail
  refine (a4 _).mono ?_; rintro e w4 ⟨rfl, q⟩
  have HK4 := Lib.hid (HK3.out.below q)
  have HM4 := Lib.hid (HM3.out.below q)
  replace hb := hb.trans (q.mono hBs); replace hBs := Nat.le_trans hBs q.size; clear q HK3 HM3
  go_wp2_with fail
  refine (a5 B g h _ HK4.out HM4.out).mono ?_; rintro e w5 ⟨rfl, q⟩
  have HK5 := Lib.hid (HK4.out.below q)
  replace hb := hb.trans (q.mono hBs); replace hBs := Nat.le_trans hBs q.size; clear q HK4 HM4
  go_wp2_with fail
  refine (a6 _ HK5.out).mono ?_; rintro e w6 ⟨rfl, q⟩
  have HK6 := Lib.hid (HK5.out.below q)
  replace hb := hb.trans (q.mono hBs); replace hBs := Nat.le_trans hBs q.size; clear q HK5
  go_wp2_with fail
  refine (a7 _ HK6.out).mono ?_; rintro e w7 ⟨rfl, q⟩
  replace hb := hb.trans (q.mono hBs)
  go_wp2
  go_ret
  exact ⟨rfl, hb⟩
end Go.Proofs.YtkomfgoloepekaaDoor
