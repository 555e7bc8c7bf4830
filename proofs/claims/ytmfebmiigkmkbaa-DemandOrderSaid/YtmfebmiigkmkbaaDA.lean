/- Manifests in memory: what reads as which. -/
import Derived.Test.YtmfebmiigkmkbaaOA
import Derived.Test.YtmfebmiigkmkbaaDN
import Derived.Deep.QuietTactic
import Derived.BigQuiet
import Derived.Lib.ConvBytes
import Derived.Deep.DeepCutAuto
import Derived.Test.YtmfebmiigkmkbaaOO
set_option linter.unusedVariables false
namespace Go.Proofs.Ytmfebmiigkmkbaa
open Go Go.RowKit Oj Dm

def xtCells (x : Xt) : List Value := [.int .u32 x.id, .int .u32 x.bl]
def ptCells (p : Int) : List Value := [.int .u16 p]
def mfCells (m : Mf) (vx vp : Value) : List Value := [.int .u32 m.pages, vx, vp, .bool m.con]
def mfV (m : Mf) (vx vp : Value) : Value := .agg #[.int .u32 m.pages, vx, vp, .bool m.con]
def xtV (x : Xt) : Value := .agg #[.int .u32 x.id, .int .u32 x.bl]
def ntV (x : Nt) : Value := .agg #[.int .u8 x.kind, .int .u32 x.n, .int .u32 x.m]
def XtsAt (w : World) (v : Value) (l : List Xt) : Prop := SlC w v l.length 2 fun j => xtCells (l.getD j Xt.nought)
def PtsAt (w : World) (v : Value) (l : List Int) : Prop := SlC w v l.length 1 fun j => ptCells (l.getD j 0)
def MfAt (w : World) (v : Value) (m : Mf) : Prop := ∃ vx vp, v = mfV m vx vp ∧ XtsAt w vx m.ext ∧ PtsAt w vp m.ports
def MfsAt (w : World) (v : Value) (l : List Mf) : Prop :=
  ∃ X P : Nat → Value, SlC w v l.length 4 (fun j => mfCells (l.getD j Mf.nought) (X j) (P j)) ∧ ∀ j, j < l.length → XtsAt w (X j) (l.getD j Mf.nought).ext ∧ PtsAt w (P j) (l.getD j Mf.nought).ports
section
variable {w w' : World} {B : Nat} {v : Value}
theorem XtsAt.below {l : List Xt} (h : XtsAt w v l) (hb : Below w.heap.size w w') : XtsAt w' v l := SlC.below h hb (Nat.le_refl _)
theorem PtsAt.below {l : List Int} (h : PtsAt w v l) (hb : Below w.heap.size w w') : PtsAt w' v l := SlC.below h hb (Nat.le_refl _)
theorem MfAt.below {m : Mf} (h : MfAt w v m) (hb : Below w.heap.size w w') : MfAt w' v m := by
  obtain ⟨vx, vp, h1, h2, h3⟩ := h
  exact ⟨vx, vp, h1, h2.below hb, h3.below hb⟩
theorem MfsAt.below {l : List Mf} (h : MfsAt w v l) (hb : Below w.heap.size w w') : MfsAt w' v l := by
  obtain ⟨X, P, h1, h2⟩ := h
  exact ⟨X, P, SlC.below h1 hb (Nat.le_refl _), fun j hj => ⟨(h2 j hj).1.below hb, (h2 j hj).2.below hb⟩⟩
theorem LieC.xt {b o : Nat} {x : Xt} (h : LieC w b o (xtCells x)) : w.cell? ⟨b, o, none⟩ = some (.int .u32 x.id) ∧ w.cell? ⟨b, o + 1, none⟩ = some (.int .u32 x.bl) := ⟨h 0 _ rfl, h 1 _ rfl⟩
theorem LieC.pt {b o : Nat} {p : Int} (h : LieC w b o (ptCells p)) : w.cell? ⟨b, o, none⟩ = some (.int .u16 p) := h 0 _ rfl
theorem LieC.mf {b o : Nat} {m : Mf} {vx vp : Value} (h : LieC w b o (mfCells m vx vp)) : w.cell? ⟨b, o, none⟩ = some (.int .u32 m.pages) ∧ w.cell? ⟨b, o + 1, none⟩ = some vx ∧ w.cell? ⟨b, o + 2, none⟩ = some vp ∧ w.cell? ⟨b, o + 3, none⟩ = some (.bool m.con) := ⟨h 0 _ rfl, h 1 _ rfl, h 2 _ rfl, h 3 _ rfl⟩
theorem MfsAt.get {l : List Mf} (h : MfsAt w v l) : ∃ a c, v = .slice a l.length c ∧ (0 < l.length → ∃ b o, a = some ⟨b, o, none⟩ ∧ b < w.heap.size ∧ ∀ j, j < l.length → ∃ vx vp, LieC w b (o + j * 4) (mfCells (l.getD j Mf.nought) vx vp) ∧ XtsAt w vx (l.getD j Mf.nought).ext ∧ PtsAt w vp (l.getD j Mf.nought).ports) := by
  obtain ⟨X, P, ⟨a, c, rfl, h2⟩, h3⟩ := h
  refine ⟨a, c, rfl, fun hn => ?_⟩
  obtain ⟨b, o, h4, h5, h6⟩ := h2 hn
  exact ⟨b, o, h4, h5, fun j hj => ⟨X j, P j, h6 j hj, (h3 j hj).1, (h3 j hj).2⟩⟩
end
/-! what fits -/
def xtFits (x : Xt) : Prop := (0 ≤ x.id ∧ x.id < 4294967296) ∧ (0 ≤ x.bl ∧ x.bl < 4294967296)
def ptFits (p : Int) : Prop := 0 ≤ p ∧ p < 65536
def mfFits (m : Mf) : Prop := (0 ≤ m.pages ∧ m.pages < 4294967296) ∧ m.ext.length * 8 ≤ 140737488355328 ∧ m.ports.length * 2 ≤ 140737488355328 ∧ (∀ j, j < m.ext.length → xtFits (m.ext.getD j Xt.nought)) ∧ (∀ j, j < m.ports.length → ptFits (m.ports.getD j 0))
def mfsFit (l : List Mf) : Prop := l.length * 64 ≤ 140737488355328 ∧ ∀ j, j < l.length → mfFits (l.getD j Mf.nought)
def ntsFit (l : List Nt) : Prop := l.length * 12 ≤ 140737488355328 ∧ ∀ j, j < l.length → ntFits (l.getD j Nt.nought)
theorem mfFits.fine {m : Mf} (h : mfFits m) (h2 : mfOk m = true) : Fine m ∧ m.ports.length ≤ 16 :=
  ok_fine h2 h.1.1 (fun x hx => by obtain ⟨k, hk, rfl⟩ := (mem_at Xt.nought).1 hx; exact (h.2.2.2.1 k hk).1.1) (fun p hp => by obtain ⟨k, hk, rfl⟩ := (mem_at (0 : Int)).1 hp; have := h.2.2.2.2 k hk; unfold ptFits at this; omega)
theorem fine_fits {m : Mf} (h : Fine m) (h1 : m.ext.length ≤ 1048576) (h2 : m.ports.length ≤ 1048576) : mfFits m := by
  refine ⟨⟨h.p0, by have := h.p1; omega⟩, by omega, by omega, fun j hj => ?_, fun j hj => ?_⟩
  · have := h.x1 _ ((mem_at Xt.nought).2 ⟨j, hj, rfl⟩)
    exact ⟨by omega, by omega⟩
  · have := h.t1 _ ((mem_at (0 : Int)).2 ⟨j, hj, rfl⟩)
    exact ⟨by omega, by omega⟩

/-! what each walk uses -/
theorem ret_bool {a b : Bool} (h : a = b) : Ending.returned (.bool a) = .returned (.bool b) := by rw [h]
theorem ret_int {a b : Int} (h : a = b) : Ending.returned (.int .i64 a) = .returned (.int .i64 b) := by rw [h]
theorem quiet_left {P : Program} {f : FuncId} {args : Array Value} {w : World} {n : Nat} {v : Value}
    (h : Calls P f args (w.drewN n) fun e w' => e = .returned v ∧ w.drewN n = w') : Calls P f args (w.drewN n) fun e w'' => e = .returned v ∧ ∃ m, w'' = w.drewN m :=
  Calls.quiet_of_same (h.mono fun _ _ ⟨a, b⟩ => ⟨a, b.symm⟩)
theorem below_call {w wx w2 : World} (hb : Below w.heap.size w wx) (q : Below wx.heap.size wx w2) : Below w.heap.size w w2 := hb.trans (q.mono hb.size)
theorem below_box {w wr : World} (hb : Below w.heap.size w wr) (o : Obj) : Below w.heap.size w (wr.alloc o) := hb.alloc hb.size _
theorem below_boxN {w wr : World} (hb : Below w.heap.size w wr) (o : Obj) (n : Nat) : Below w.heap.size w ((wr.alloc o).drewN n) := below_call (below_box hb o) (below_drewN _ n)
theorem below_new1 (w : World) (o : Obj) : Below w.heap.size w (w.alloc o) := (Below.refl _ _).alloc (Nat.le_refl _) _
theorem below_new2 (w : World) (o p : Obj) : Below w.heap.size w ((w.alloc o).alloc p) := below_box (below_new1 w o) p
theorem below_drew {w wr : World} (hb : Below w.heap.size w wr) (n : Nat) : Below w.heap.size w (wr.drewN n) := below_call hb (below_drewN _ n)
theorem below_set {w wr : World} (hb : Below w.heap.size w wr) {g : Nat} (hg : w.heap.size ≤ g) (i : Nat) (u : Value) : Below w.heap.size w (wr.setCell ⟨g, i, none⟩ u) := hb.setCell hg u
theorem Blk.boxN {w : World} {g : Nat} {t : TypeId} {cs : List Value} (h : Blk w g t cs) (o : Obj) (n : Nat) : Blk ((w.alloc o).drewN n) g t cs := h.alloc o
theorem Blk.call {w w2 : World} {g : Nat} {t : TypeId} {cs : List Value} (h : Blk w g t cs) (q : Below w.heap.size w w2) : Blk w2 g t cs := h.below q h.lt
theorem Blk.drewN {w : World} {g : Nat} {t : TypeId} {cs : List Value} (h : Blk w g t cs) (n : Nat) : Blk (w.drewN n) g t cs := h
theorem Blk.new2 (w : World) (o : Obj) (t : TypeId) (cs : List Value) : Blk ((w.alloc o).alloc (.cells cs.toArray t)) (w.heap.size + 1) t cs := by
  have h := Blk.new (w.alloc o) t cs
  rwa [show (w.alloc o).heap.size = w.heap.size + 1 by simp] at h
theorem Blk.four {w : World} {g : Nat} {t : TypeId} {a b c d : Value} (H : Blk w g t [a, b, c, d]) : w.cell? ⟨g, 0, none⟩ = some a ∧ w.cell? ⟨g, 1, none⟩ = some b ∧ w.cell? ⟨g, 2, none⟩ = some c ∧ w.cell? ⟨g, 3, none⟩ = some d :=
  ⟨H.cell 0, H.cell 1, H.cell 2, H.cell 3⟩
theorem Blk.three {w : World} {g : Nat} {t : TypeId} {a b c : Value} (H : Blk w g t [a, b, c]) : w.cell? ⟨g, 0, none⟩ = some a ∧ w.cell? ⟨g, 1, none⟩ = some b ∧ w.cell? ⟨g, 2, none⟩ = some c :=
  ⟨H.cell 0, H.cell 1, H.cell 2⟩
def okI (b : Bool) : Int := if b = true then 0 else 2
theorem okI_t : okI true = 0 := rfl
theorem okI_f : okI false = 2 := rfl
end Go.Proofs.Ytmfebmiigkmkbaa
