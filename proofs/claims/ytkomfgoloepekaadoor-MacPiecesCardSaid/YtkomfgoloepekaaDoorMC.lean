/- The mac behind a pointer; mac's within.write, within.digest, New, Write, Sum (the methods). -/
import Derived.Test.YtkomfgoloepekaaDoorMB
set_option linter.unusedVariables false
namespace Go.Proofs.YtkomfgoloepekaaDoor
open Go.RowKit

/-- The slice v holds the texts ss, and does not lie in block h. -/
def Texts (w : World) (h : Nat) (v : Value) (ss : List ByteArray) : Prop :=
  ∃ a c, v = .slice a ss.length c ∧ (ss = [] ∨ ∃ b o, a = some ⟨b, o, none⟩ ∧ b < w.heap.size ∧ b ≠ h ∧ ∀ j, j < ss.length → w.cell? ⟨b, o + j, none⟩ = some (.string (ss.getD j ⟨#[]⟩)))
theorem Texts.below {w w' : World} {h : Nat} {v : Value} {ss : List ByteArray} (ht : Texts w h v ss) (hb : Below w.heap.size w w') : Texts w' h v ss := by
  obtain ⟨a, c, h1, h2⟩ := ht
  refine ⟨a, c, h1, h2.imp_right ?_⟩
  rintro ⟨b, o, e1, e2, e3, e4⟩
  exact ⟨b, o, e1, Nat.lt_of_lt_of_le e2 hb.size, e3, fun j hj => (hb.cell (p := ⟨b, o + j, none⟩) e2).trans (e4 j hj)⟩
theorem Texts.one (w : World) (h : Nat) (s : ByteArray) (hh : h < w.heap.size) (c : Nat) : Texts (w.alloc (.cells #[.string s] 9)) h (.slice (some ⟨w.heap.size, 0, none⟩) 1 c) [s] := by
  refine ⟨_, c, rfl, .inr ⟨w.heap.size, 0, rfl, by simp, by omega, fun j hj => ?_⟩⟩
  have hnew : (w.alloc (.cells #[.string s] 9)).heap[w.heap.size]? = some (.cells #[.string s] 9 (0, 0)) := heap_alloc_new w _
  rw [cell_of_row _ _ _ _ _ _ hnew]
  rcases j with _ | j
  · rfl
  · exact absurd hj (by simp)

theorem grown_below {w w' : World} {row : Option Nat} (hb : Below w.heap.size w w') : w.grownBy w' row := only_below (World.grownBy.refl w row) hb

set_option maxHeartbeats 1000000 in
theorem wwrite_any (g : Nat) (v : Value) (ss : List ByteArray) (l : List Nat) (w : World) (hk : Keyed w) (hg : g ≠ 0) (hh : HashOf w g l) (hs : Texts w g v ss) (hl : l.length + (allNats ss).length ≤ 4294967296) (hss : ss.length ≤ 4294967296) :
    Calls Tryd.prog 19 #[.agg #[.pointer (some ⟨g, 0, none⟩)], v] w fun e w' => e = .returned (.int .i64 0) ∧ HashOf w' g (l ++ allNats ss) ∧ w.grownBy w' (some g) := by
  have hb : Below w.heap.size w (w.alloc (.cells #[.pointer (some ⟨g, 0, none⟩)] 39)) := (Below.refl _ _).alloc (Nat.le_refl _) _
  have hlt := hh.lt
  have HW : Hid (Calls Tryd.prog 28 #[.pointer (some ⟨g, 0, none⟩), v] (w.alloc (.cells #[.pointer (some ⟨g, 0, none⟩)] 39)) fun e w' => e = .returned (.int .i64 0) ∧ HashOf w' g (l ++ allNats ss) ∧ w.grownBy w' (some g)) :=
    Lib.hid ((writes_any g v ss l _ (hk.below hb) hg (hh.below hb hlt) (hs.below hb) hl hss).mono fun e w' ⟨h1, h2, h3⟩ => ⟨h1, h2, only_trans (grown_below hb) h3⟩)
  clear hk hg hh hs hl hss hb hlt
  go_enter Tryd.func19, Tryd.ntmps19
  go_wp2_with fail
  refine HW.out.mono ?_; rintro e w1 ⟨rfl, h1, h2⟩
  go_wp2
  go_ret
  exact ⟨rfl, h1, h2⟩

set_option maxHeartbeats 1000000 in
theorem wdigest_any (g : Nat) (l : List Nat) (w : World) (hk : Keyed w) (hh : HashOf w g l) (hl : l.length ≤ 4294967296) :
    Calls Tryd.prog 22 #[.agg #[.pointer (some ⟨g, 0, none⟩)]] w fun e w' => e = .returned (.string (str (Sh.sum l))) ∧ Below w.heap.size w w' := by
  have hb : Below w.heap.size w (w.alloc (.cells #[.pointer (some ⟨g, 0, none⟩)] 39)) := (Below.refl _ _).alloc (Nat.le_refl _) _
  have hlt := hh.lt
  have HW : Hid (Calls Tryd.prog 24 #[.pointer (some ⟨g, 0, none⟩)] (w.alloc (.cells #[.pointer (some ⟨g, 0, none⟩)] 39)) fun e w' => e = .returned (.string (str (Sh.sum l))) ∧ Below w.heap.size w w') :=
    Lib.hid ((hsum_any g l _ (hk.below hb) (hh.below hb hlt) hl).mono fun e w' ⟨h1, h3⟩ => ⟨h1, hb.trans (h3.mono hb.size)⟩)
  clear hk hh hl hb hlt
  go_enter Tryd.func22, Tryd.ntmps22
  go_wp2_with fail
  refine HW.out.mono ?_; rintro e w1 ⟨rfl, h2⟩
  go_wp2
  go_ret
  exact ⟨rfl, h2⟩

/-- Behind the pointer g lies the mac by that key to which l was written; its hash lies in block h; both behind B. -/
def MacAt (B : Nat) (w : World) (g h : Nat) (key l : List Nat) : Prop :=
  B ≤ g ∧ B ≤ h ∧ h ≠ g ∧ Blk w g 41 [.pointer (some ⟨h, 0, none⟩), .string (str (Mc.outer key))] ∧ HashOf w h (Mc.inner key ++ l)
section
variable {B : Nat} {w w' : World} {g h : Nat} {key l : List Nat}
theorem MacAt.below (m : MacAt B w g h key l) (hb : Below w.heap.size w w') : MacAt B w' g h key l :=
  ⟨m.1, m.2.1, m.2.2.1, m.2.2.2.1.below hb m.2.2.2.1.lt, m.2.2.2.2.below hb m.2.2.2.2.lt⟩
theorem MacAt.hlt (m : MacAt B w g h key l) : h < w.heap.size := m.2.2.2.2.lt
theorem MacAt.ptr (m : MacAt B w g h key l) : w.cell? ⟨g, 0, none⟩ = some (.pointer (some ⟨h, 0, none⟩)) := by rw [m.2.2.2.1.cell]; rfl
theorem MacAt.out (m : MacAt B w g h key l) : w.cell? ⟨g, 1, none⟩ = some (.string (str (Mc.outer key))) := by rw [m.2.2.2.1.cell]; rfl
end

set_option maxHeartbeats 1000000 in
theorem mwrite_any (B g h : Nat) (v : Value) (ss : List ByteArray) (key l : List Nat) (w : World) (hk : Keyed w) (hB : 0 < B) (hBs : B ≤ w.heap.size) (hm : MacAt B w g h key l) (hs : Texts w h v ss) (hl : l.length + (allNats ss).length ≤ 4294960000) (hss : ss.length ≤ 4294967296) :
    Calls Tryd.prog 12 #[.pointer (some ⟨g, 0, none⟩), v] w fun e w' => e = .returned (.int .i64 0) ∧ MacAt B w' g h key (l ++ allNats ss) ∧ Below B w w' ∧ Keyed w' := by
  have g0 := hm.ptr
  have HW : Hid (Calls Tryd.prog 19 #[.agg #[.pointer (some ⟨h, 0, none⟩)], v] w fun e w' => e = .returned (.int .i64 0) ∧ MacAt B w' g h key (l ++ allNats ss) ∧ Below B w w' ∧ Keyed w') := by
    obtain ⟨m1, m2, m3, m4, m5⟩ := hm
    refine Lib.hid ((wwrite_any h v ss (Mc.inner key ++ l) w hk (by omega) m5 hs (by rw [List.length_append, Mc.inner_length]; omega) hss).mono fun e w' ⟨h1, h2, h3⟩ => ⟨h1, ⟨m1, m2, m3, ?_, ?_⟩, ?_, hk.grown h3 (by omega)⟩)
    · exact m4.grown h3 (fun e => by injection e; omega)
    · rw [← List.append_assoc]; exact h2
    · exact Below.ofGrown (Below.refl _ _) h3 m2 hBs
  clear hk hm hs hl hss hB hBs
  go_enter Tryd.func12, Tryd.ntmps12
  go_wp2_with fail
  refine HW.out.mono ?_; rintro e w1 ⟨rfl, h2⟩
  go_wp2
  go_ret
  exact ⟨rfl, h2⟩
theorem mwrite_nil (v : Value) (w : World) : Calls Tryd.prog 12 #[.pointer none, v] w fun e w' => e = .returned (.int .i64 1) ∧ w = w' := by
  go_enter Tryd.func12, Tryd.ntmps12
  go_wp2
  go_ret
  exact ⟨rfl, rfl⟩
theorem msum_nil (w : World) : Calls Tryd.prog 13 #[.pointer none] w fun e w' => e = .returned (.string ⟨#[]⟩) ∧ w = w' := by
  go_enter Tryd.func13, Tryd.ntmps13
  go_wp2
  go_ret
  exact ⟨rfl, rfl⟩
end Go.Proofs.YtkomfgoloepekaaDoor
