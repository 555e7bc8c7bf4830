/- The state of PackReads: two readers in step; a list of calls that came in. -/
import Derived.Test.YtijfdnaolgbpmaaPJ
import Derived.Test.YtijfdnaolgbpmaaPC
set_option linter.unusedVariables false
namespace Go.Proofs.Ytijfdnaolgbpmaa
open Go Go.RowKit Pk

section
variable {r : Rd}
theorem texts_E0 (h : (texts r).2.E = 0) : r.E = 0 := by
  unfold texts at h
  by_cases h1 : (num r 2).2.E = 0
  · exact num_E0 2 h1
  · rw [if_pos h1] at h; exact absurd h h1
theorem texts_len : (texts r).2.S.length ≤ r.S.length := by
  by_cases h : (texts r).2.E = 0
  · have := (texts_back (texts_E0 h) h).1
    have h2 : r.S.length = (lst (texts r).1 ++ (texts r).2.S).length := by rw [← this]
    rw [List.length_append] at h2
    omega
  · rw [(texts_fault h).2]; exact Nat.le_refl _
theorem texts_many : (texts r).1.length ≤ 4096 := by
  by_cases h : (texts r).2.E = 0
  · exact (lstE_ok (texts_back (texts_E0 h) h).2).1
  · rw [(texts_fault h).1]; exact Nat.zero_le _
end

/-- The k-th of n calls that came in: which, and its number. -/
def StArg (w : World) (a : Option Addr) (n : Nat) (D N : Nat → Int) : Prop := ∀ k, k < n → ∃ b o, a = some ⟨b, o, none⟩ ∧ b < w.heap.size ∧ w.cell? ⟨b, o + k * 2, none⟩ = some (.int .i64 (D k)) ∧ w.cell? ⟨b, o + k * 2 + 1, none⟩ = some (.int .i64 (N k))
theorem StArg.below {w w' : World} {a : Option Addr} {n : Nat} {D N : Nat → Int} (h : StArg w a n D N) (hb : Below w.heap.size w w') : StArg w' a n D N := by
  intro k hk
  obtain ⟨b, o, rfl, h1, h2, h3⟩ := h k hk
  exact ⟨b, o, rfl, Nat.lt_of_lt_of_le h1 hb.size, (hb.cell (p := ⟨b, o + k * 2, none⟩) h1).trans h2, (hb.cell (p := ⟨b, o + k * 2 + 1, none⟩) h1).trans h3⟩

/-- The program's reader behind p stands at r, the document's behind g at q. -/
structure Rs (Rep : List Value → Rd → Prop) (w0 : World) (p g : Nat) (r q : Rd) (w : World) : Prop where
  d : PdAt Rep w p r
  e : RdAt w g q
  low : Below w0.heap.size w0 w
  gs : w0.heap.size ≤ w.heap.size
  gp : w0.heap.size ≤ p
  gg : w0.heap.size ≤ g
  ne : p ≠ g
section
variable {Rep : List Value → Rd → Prop} {w0 w w' : World} {p g : Nat} {r q r2 : Rd}
theorem Rs.prog (a : Rs Rep w0 p g r q w) (hd : PdAt Rep w' p r2) (hg : w.grownBy w' (some p)) : Rs Rep w0 p g r2 q w' :=
  ⟨hd, Blk.grown a.e hg (fun h => a.ne (by cases h; rfl)), below_new a.low hg a.gs a.gp, Nat.le_trans a.gs hg.size, a.gp, a.gg, a.ne⟩
theorem Rs.doc (a : Rs Rep w0 p g r q w) (he : RdAt w' g r2) (hg : w.grownBy w' (some g)) : Rs Rep w0 p g r r2 w' :=
  ⟨a.d.grown hg (fun h => a.ne (by cases h; rfl)), he, below_new a.low hg a.gs a.gg, Nat.le_trans a.gs hg.size, a.gp, a.gg, a.ne⟩
theorem Rs.below (a : Rs Rep w0 p g r q w) (hb : Below w.heap.size w w') : Rs Rep w0 p g r q w' :=
  ⟨a.d.below hb, RdAt.below a.e hb, a.low.trans (hb.mono a.gs), Nat.le_trans a.gs hb.size, a.gp, a.gg, a.ne⟩
theorem Rs.drewN (a : Rs Rep w0 p g r q w) (n : Nat) : Rs Rep w0 p g r q (w.drewN n) := a.below (below_drewN w n)
theorem Rs.step {a0 : Option Addr} {n : Nat} {D N : Nat → Int} (a : Rs Rep w0 p g r q w) (s : StArg w0 a0 n D N) : StArg w a0 n D N := s.below a.low
/-- Both made. -/
theorem Rs.new {s : ByteArray} (hp : w0.heap.size ≤ p) (hd : PdAt Rep w p ⟨by' s, 0⟩) (hb : Below w0.heap.size w0 w) : Rs Rep w0 p w.heap.size ⟨by' s, 0⟩ ⟨by' s, 0⟩ (w.alloc (.cells #[.string s, .int .i64 0] 39)) := by
  have hlt := hd.lt
  have hA : Below w.heap.size w (w.alloc (.cells #[.string s, .int .i64 0] 39)) := (Below.refl _ w).alloc (Nat.le_refl _) _
  refine ⟨hd.below hA, ?_, hb.alloc hb.size _, Nat.le_trans hb.size hA.size, hp, hb.size, by omega⟩
  unfold RdAt
  rw [show tx (Rd.mk (by' s) 0).S = s from tx_by s]
  exact Blk.new _ _ _
end
end Go.Proofs.Ytijfdnaolgbpmaa
