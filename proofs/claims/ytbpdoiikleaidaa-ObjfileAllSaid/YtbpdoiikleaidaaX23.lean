/- The program's reading: a number, a byte, a text, a Rel, a Note. (written by mk_kg.py) -/
import Derived.Test.YtbpdoiikleaidaaX13
import Derived.Test.YtbpdoiikleaidaaX21
import Derived.Test.YtbpdoiikleaidaaX22
import Derived.Deep.RegionHeld3
import Derived.IntWalk
set_option linter.unusedVariables false
set_option linter.unusedSimpArgs false
namespace Go.Proofs.Ytbpdoiikleaidaa
open Go Go.RowKit Oj Pk Of

/-- A reading over the reader behind p. -/
def rdg (p : Nat) : Value := .agg #[.pointer (some ⟨p, 0, none⟩)]
/-- What a reading's call leaves. -/
def GPost (w : World) (p : Nat) (v : Value) (r : Rd) (x : Ending) (w' : World) : Prop := x = .returned v ∧ RpAt w' p r ∧ w.grownBy w' (some p)
/-- A call's own box of the reading, its result's block, and the reader behind p. -/
structure Gr (w0 w : World) (p : Nat) (r : Rd) (t : TypeId) (zs : List Value) : Prop where
  rd : RpAt w p r
  bx : Blk w w0.heap.size 71 [.pointer (some ⟨p, 0, none⟩)]
  res : Blk w (w0.heap.size + 1) t zs
  gr : w0.grownBy w (some p)
  lp : p < w0.heap.size
section
variable {w0 w w' : World} {p : Nat} {r r2 : Rd} {t : TypeId} {zs : List Value}
theorem Gr.read (h : Gr w0 w p r t zs) (h1 : RpAt w' p r2) (h2 : w.grownBy w' (some p)) : Gr w0 w' p r2 t zs :=
  ⟨h1, h.bx.grown h2 (fun e => by have := Option.some.inj e; have := h.lp; omega), h.res.grown h2 (fun e => by have := Option.some.inj e; have := h.lp; omega), gb_trans h.gr h2, h.lp⟩
theorem Gr.new (h : RpAt w p r) (t : TypeId) (zs : List Value) : Gr w ((w.alloc (.cells #[.pointer (some ⟨p, 0, none⟩)] 71)).alloc (.cells zs.toArray t)) p r t zs :=
  ⟨h.below (below2 w _ _), (Blk.new w 71 [.pointer (some ⟨p, 0, none⟩)]).alloc _, Blk.new2 w _ t zs, grownB (below2 w _ _) _, Blk.lt h⟩
theorem Gr.drew (h : Gr w0 w p r t zs) : Gr w0 w.drew p r t zs := ⟨h.rd, h.bx, h.res, gb_trans h.gr (grown_drewN w 1 p), h.lp⟩
theorem gnum_any (n : Int) (w : World) (h : RpAt w p r) (hS : r.S.length ≤ 140737488355328) : Calls Try.prog 63 #[rdg p, .int .i64 n] w (GPost w p (.int .u32 ((num r n).1 : Nat)) (num r n).2) := by
  have HN := Lib.hid (pdnum_any n _ (h.below (below1 w (.cells #[.pointer (some ⟨p, 0, none⟩)] 71))) hS)
  have hx0 := boxed1 w (.pointer (some ⟨p, 0, none⟩)) 71
  have HB := Lib.hid (grownB (below1 w (.cells #[.pointer (some ⟨p, 0, none⟩)] 71)) (some p))
  obtain ⟨N, hN⟩ : ∃ N, N = (num r n).1 := ⟨_, rfl⟩
  obtain ⟨r2, hr2⟩ : ∃ r2, r2 = (num r n).2 := ⟨_, rfl⟩
  rw [← hN, ← hr2] at HN ⊢
  unfold RpPost at HN
  unfold rdg
  clear hN hr2 h hS
  go_enter Try.func63, Try.ntmps63
  go_wp2_with fail
  refine HN.out.mono ?_; rintro e w1 ⟨rfl, q, g⟩
  have HQ := Lib.hid (And.intro q (gb_trans HB.out g))
  clear q g HN
  go_wp2_with fail
  go_ret
  exact ⟨rfl, HQ.out.1, HQ.out.2⟩
theorem gtext_any (w : World) (h : RpAt w p r) (hS : r.S.length ≤ 140737488355328) : Calls Try.prog 44 #[rdg p] w (GPost w p (.string (tx (text r).1)) (text r).2) := by
  have HN := Lib.hid (pdtext_any _ (h.below (below1 w (.cells #[.pointer (some ⟨p, 0, none⟩)] 71))) hS)
  have hx0 := boxed1 w (.pointer (some ⟨p, 0, none⟩)) 71
  have HB := Lib.hid (grownB (below1 w (.cells #[.pointer (some ⟨p, 0, none⟩)] 71)) (some p))
  obtain ⟨N, hN⟩ : ∃ N, N = tx (text r).1 := ⟨_, rfl⟩
  obtain ⟨r2, hr2⟩ : ∃ r2, r2 = (text r).2 := ⟨_, rfl⟩
  rw [← hN, ← hr2] at HN ⊢
  unfold RpPost at HN
  unfold rdg
  clear hN hr2 h hS
  go_enter Try.func44, Try.ntmps44
  go_wp2_with fail
  refine HN.out.mono ?_; rintro e w1 ⟨rfl, q, g⟩
  have HQ := Lib.hid (And.intro q (gb_trans HB.out g))
  clear q g HN
  go_wp2_with fail
  go_ret
  exact ⟨rfl, HQ.out.1, HQ.out.2⟩
theorem gsmall_any (w : World) (h : RpAt w p r) (hS : r.S.length ≤ 140737488355328) : Calls Try.prog 64 #[rdg p] w (GPost w p (.int .u8 ((num r 1).1 : Nat)) (num r 1).2) := by
  have HN := Lib.hid (gnum_any 1 _ (h.below (below1 w (.cells #[.pointer (some ⟨p, 0, none⟩)] 71))) hS)
  have hx0 := boxed1 w (.pointer (some ⟨p, 0, none⟩)) 71
  have HB := Lib.hid (grownB (below1 w (.cells #[.pointer (some ⟨p, 0, none⟩)] 71)) (some p))
  have hlt := num1_lt r
  obtain ⟨N, hN⟩ : ∃ N, N = (num r 1).1 := ⟨_, rfl⟩
  obtain ⟨r2, hr2⟩ : ∃ r2, r2 = (num r 1).2 := ⟨_, rfl⟩
  rw [← hN] at hlt
  rw [← hN, ← hr2] at HN ⊢
  have hwr : IntKind.u8.wrap (N : Int) = N := u8_small hlt
  unfold GPost at HN
  unfold rdg at HN ⊢
  clear hN hr2 h hS hlt
  go_enter Try.func64, Try.ntmps64
  go_wp2_with fail
  refine HN.out.mono ?_; rintro e w1 ⟨rfl, q, g⟩
  have HQ := Lib.hid (And.intro q (gb_trans HB.out g))
  clear q g HN
  go_wp2_with fail
  go_ret
  exact ⟨rfl, HQ.out.1, HQ.out.2⟩
end
end Go.Proofs.Ytbpdoiikleaidaa
