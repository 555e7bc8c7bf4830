/- Some texts of one proof, one behind the other; each has its own head below. -/
import Derived.Test.YtlnnhgmkibjgmaaDoorX35
import Derived.Test.YtlnnhgmkibjgmaaDoorX36
/- What stands while the maker's refer goes on. -/
section
set_option linter.unusedVariables false
set_option linter.unusedSimpArgs false
namespace Go.Proofs.YtlnnhgmkibjgmaaDoor
open Go Go.RowKit Go.Maps Oj Al

theorem gb_row {a b c : World} {g : Option Nat} {v : Value} (h : a.grownBy b g) (h2 : b.grownBy c v.ownBlock) (hr : ∀ k, v.ownBlock = some k → a.heap.size ≤ k) : a.grownBy c g :=
  ⟨h2.os.trans h.os, h2.tape.trans h.tape, h2.output.trans h.output, Nat.le_trans h.size h2.size, fun k hk hn => (h2.block k (Nat.lt_of_lt_of_le hk h.size) (fun e => absurd (hr k e.symm) (by omega))).trans (h.block k hk hn)⟩
theorem LabIs.heap {w : World} {b n : Nat} {M : List UInt8 → Option Nat} (h : LabIs w b n M) : ∃ es cl, w.heap[b]? = some (.map es cl) := by
  obtain ⟨D, ⟨es, clock, hb, _⟩, _⟩ := h
  exact ⟨es, clock, hb⟩
theorem LabIs.ne {w : World} {b n g : Nat} {M : List UInt8 → Option Nat} {t : TypeId} {cs : List Value} (h : LabIs w b n M) (hg : Blk w g t cs) : b ≠ g := by
  obtain ⟨es, cl, hb⟩ := h.heap
  intro e
  subst e
  unfold Blk at hg
  rw [hb] at hg
  cases hg
theorem LabIs.row {w : World} {b n B z m : Nat} {M : List UInt8 → Option Nat} {e : TypeId} {v : Value} {xs : List Value} (h : LabIs w b n M) (hr : w.ownsRow B e z v m xs) : some b ≠ v.ownBlock := by
  obtain ⟨es, cl, hb⟩ := h.heap
  rcases hr.2 with ⟨rfl, _⟩ | ⟨k, cap, cur, rfl, _, hk, _⟩
  · intro hc; cases hc
  · intro hc
    simp only [Value.ownBlock, Option.some.injEq] at hc
    subst hc
    rw [hb] at hk
    cases hk
theorem ownR_snoc {w : World} {B : Nat} {v : Value} {LR : List Rl} {x : Rl} (hr : w.ownsRow B 58 4 v (LR.length + 1) (flat (fun j => rlCells (LR.getD j Rl.nought)) LR.length ++ rlCells x)) : OwnR w B v (LR ++ [x]) := by
  unfold OwnR
  have hcat : flat (fun j => rlCells (LR.getD j Rl.nought)) LR.length ++ rlCells x = flat (fun j => rlCells ((LR ++ [x]).getD j Rl.nought)) (LR ++ [x]).length := by
    rw [List.length_append, List.length_singleton, flat]
    congr 1
    · exact flat_congr _ (fun j hj => by rw [List.getD_eq_getElem?_getD, List.getD_eq_getElem?_getD, List.getElem?_append_left hj])
    · simp
  rw [← hcat, List.length_append]
  exact hr
/-- What stands while refer goes on. -/
structure RI (W wr : World) (g b n : Nat) (M : List UInt8 → Option Nat) (nm : ByteArray) (c1 c2 c3 c4 c6 vr : Value) (LR : List Rl) : Prop where
  mak : Blk wr g 65 [.string nm, c1, c2, c3, c4, vr, c6, .map (some b)]
  lab : LabIs wr b n M
  gb : W.grownBy wr (some g)
  row : OwnR wr W.heap.size vr LR
section
variable {W wr w' : World} {g b n : Nat} {M : List UInt8 → Option Nat} {nm : ByteArray} {c1 c2 c3 c4 c6 vr : Value} {LR : List Rl}
theorem RI.below (h : RI W wr g b n M nm c1 c2 c3 c4 c6 vr LR) (hb : Below wr.heap.size wr w') : RI W w' g b n M nm c1 c2 c3 c4 c6 vr LR :=
  ⟨h.mak.call hb, h.lab.below hb, gb8 h.gb (gb_of hb (some g)), row_below h.row hb⟩
theorem RI.set4 (h : RI W wr g b n M nm c1 c2 c3 c4 c6 vr LR) {p : Nat} {t : TypeId} {cs : List Value} (hp : Blk wr p t cs) (hW : W.heap.size ≤ p) (hpg : g ≠ p) (hr : vr.ownBlock ≠ some p) (i : Nat) (u : Value) : RI W (wr.setCell ⟨p, i, none⟩ u) g b n M nm c1 c2 c3 c4 c6 vr LR :=
  ⟨h.mak.far hpg u, h.lab.kept (grown_set wr p i u) (by intro e; injection e with e; exact h.lab.ne hp e), gb_far h.gb (grown_set wr p i u) hW, World.ownsRow.kept h.row (grown_set wr p i u) (.inr hr)⟩
theorem RI.rowlt (h : RI W wr g b n M nm c1 c2 c3 c4 c6 vr LR) {p : Nat} (hp : wr.heap.size ≤ p) : vr.ownBlock ≠ some p := by
  rcases h.row.2 with ⟨rfl, _⟩ | ⟨k, cap, cur, rfl, _, hk, _⟩
  · intro hc; cases hc
  · intro hc
    simp only [Value.ownBlock, Option.some.injEq] at hc
    have := (Array.getElem?_eq_some_iff.1 hk).1
    omega
theorem RI.grows (h : RI W wr g b n M nm c1 c2 c3 c4 c6 vr LR) {v2 : Value} {x : Rl} (hr : w'.ownsRow W.heap.size 58 4 v2 (LR.length + 1) (flat (fun j => rlCells (LR.getD j Rl.nought)) LR.length ++ rlCells x)) (hg : wr.grownBy w' vr.ownBlock) :
    Blk w' g 65 [.string nm, c1, c2, c3, c4, vr, c6, .map (some b)] ∧ RI W (w'.setCell ⟨g, 5, none⟩ v2) g b n M nm c1 c2 c3 c4 c6 v2 (LR ++ [x]) := by
  have h1 := h.mak.grown hg (fun e => row_block h.mak h.row (by decide) e.symm)
  have h2 := ownR_snoc hr
  have h3 := h.lab.kept hg (h.lab.row h.row)
  have h4 := gb_row h.gb hg (fun k hk => (World.ownsRow.lt h.row k hk).1)
  refine ⟨h1, h1.set_ 5 v2, h3.kept (grown_set w' g 5 v2) (by intro e; injection e with e; exact h3.ne h1 e), gb8 h4 (grown_set w' g 5 v2), World.ownsRow.kept h2 (grown_set w' g 5 v2) (.inr (row_block h1 h2 (by decide)))⟩
end
/-- The places of a line that may be. -/
theorem relsAt_none {nm : List UInt8} {l : List Ln} {k : Nat} (h : adr (l.getD k Ln.nought) = false) : relsAt nm l k = [] := by
  unfold adr at h
  rw [Bool.or_eq_false_iff, decide_eq_false_iff_not, decide_eq_false_iff_not, Decidable.not_not, Decidable.not_not] at h
  unfold relsAt
  rw [h.1, h.2]
  rfl
theorem relsAt_name {nm : List UInt8} {l : List Ln} {k : Nat} (h : adr (l.getD k Ln.nought) = true) (h2 : (l.getD k Ln.nought).to = []) : relsAt nm l k = [⟨8 * (k : Int) + 4, 1, (l.getD k Ln.nought).name, (l.getD k Ln.nought).im⟩] := by
  unfold adr at h
  rw [h2] at h
  have h3 : (l.getD k Ln.nought).name ≠ [] := by simpa using h
  unfold relsAt
  rw [if_pos h3, h2, if_neg (by simp)]
  rfl
theorem relsAt_to {nm : List UInt8} {l : List Ln} {k i : Nat} (ho : lnOk (l.getD k Ln.nought) = true) (h2 : (l.getD k Ln.nought).to ≠ []) (hi : findL l (l.getD k Ln.nought).to = some i) : relsAt nm l k = [⟨8 * (k : Int) + 4, 1, nm, 8 * (i : Int)⟩] := by
  have h3 : (l.getD k Ln.nought).name = [] := by
    unfold lnOk at ho
    simp only [Bool.and_eq_true, Bool.not_eq_true', Bool.and_eq_false_iff, decide_eq_true_eq, decide_eq_false_iff_not, Decidable.not_not] at ho
    rcases ho.1.2 with h | h
    · exact absurd h h2
    · exact h
  unfold relsAt
  rw [h3, if_neg (by simp), if_pos h2, hi]
  rfl
theorem labM_find {l : List Ln} {s : List UInt8} (h : s ≠ []) : labM l l.length s = findL l s := by
  unfold labM findL
  rw [if_neg h]
theorem toOk_none {l : List Ln} {k : Nat} (h : (l.getD k Ln.nought).to = []) : toOk l k = true := by unfold toOk; rw [decide_eq_true h]; rfl
theorem toOk_some {l : List Ln} {k i : Nat} (h : findL l (l.getD k Ln.nought).to = some i) : toOk l k = true := by unfold toOk; rw [h]; simp
theorem toOk_no {l : List Ln} {k : Nat} (h0 : (l.getD k Ln.nought).to ≠ []) (h : findL l (l.getD k Ln.nought).to = none) : toOk l k = false := by unfold toOk; rw [h, decide_eq_false h0]; rfl
theorem adr_none {x : Ln} (h : adr x = false) : x.to = [] := by
  unfold adr at h
  rw [Bool.or_eq_false_iff, decide_eq_false_iff_not, Decidable.not_not] at h
  exact h.1
/-- What refer leaves. -/
def RefP (W : World) (g : Nat) (l : List Ln) (nm : ByteArray) (c1 c2 c3 c4 c6 c7 : Value) (e : Ending) (W' : World) : Prop :=
  (allN l.length (toOk l) = false ∧ e = .returned (.int .i64 3) ∧ W.grownBy W' (some g)) ∨
  (allN l.length (toOk l) = true ∧ e = .returned (.int .i64 0) ∧ W.grownBy W' (some g) ∧ ∃ v5, Blk W' g 65 [.string nm, c1, c2, c3, c4, v5, c6, c7] ∧ OwnR W' W.heap.size v5 (relsL (by' nm) l l.length))
end Go.Proofs.YtlnnhgmkibjgmaaDoor
end

/- What stands while the maker's made goes on. -/
section
set_option linter.unusedVariables false
set_option linter.unusedSimpArgs false
namespace Go.Proofs.YtlnnhgmkibjgmaaDoor
open Go Go.RowKit Oj Al

structure MS (W0 wr : World) (g pr rs : Nat) (nm : ByteArray) (bi ki sz : Int) (bs : ByteArray) (vr vn lb : Value) (LR : List Rl) : Prop where
  low : Below W0.heap.size W0 wr
  res : Blk wr rs 29 zS
  mak : Blk wr g 65 [.string nm, .int .u8 bi, .int .u8 ki, .int .u32 sz, .string bs, vr, vn, lb]
  row : OwnR wr W0.heap.size vr LR
  hg : W0.heap.size ≤ g
  hrs : W0.heap.size ≤ rs
  out : Blk wr pr 29 zS
  hpr : pr ≠ rs
section
variable {W0 wr w' : World} {g pr rs : Nat} {nm bs : ByteArray} {bi ki sz : Int} {vr vn lb : Value} {LR : List Rl}
theorem MS.below (h : MS W0 wr g pr rs nm bi ki sz bs vr vn lb LR) (hb : Below wr.heap.size wr w') : MS W0 w' g pr rs nm bi ki sz bs vr vn lb LR :=
  ⟨below_call h.low hb, h.res.call hb, h.mak.call hb, row_below h.row hb, h.hg, h.hrs, h.out.call hb, h.hpr⟩
theorem MS.ne (h : MS W0 wr g pr rs nm bi ki sz bs vr vn lb LR) : rs ≠ g := by
  intro e
  have h1 := h.res
  have h2 := h.mak
  subst e
  unfold Blk at h1 h2
  rw [h1] at h2
  injection h2 with h2
  injection h2 with h3 h4
  exact absurd h4 (by decide)
theorem MS.ne2 (h : MS W0 wr g pr rs nm bi ki sz bs vr vn lb LR) : pr ≠ g := by
  intro e
  have h1 := h.out
  have h2 := h.mak
  subst e
  unfold Blk at h1 h2
  rw [h1] at h2
  injection h2 with h2
  injection h2 with h3 h4
  exact absurd h4 (by decide)
theorem MS.setN (h : MS W0 wr g pr rs nm bi ki sz bs vr vn lb LR) : MS W0 (wr.setCell ⟨g, 0, none⟩ (.string nm)) g pr rs nm bi ki sz bs vr vn lb LR :=
  ⟨below_set h.low h.hg 0 _, h.res.far (p := ⟨g, 0, none⟩) h.ne _, h.mak.set_ 0 _, World.ownsRow.kept h.row (grown_set wr g 0 _) (.inr (row_block h.mak h.row (by decide))), h.hg, h.hrs, h.out.far (p := ⟨g, 0, none⟩) h.ne2 _, h.hpr⟩
theorem MS.setB (h : MS W0 wr g pr rs nm bi ki sz bs vr vn lb LR) : MS W0 (wr.setCell ⟨g, 4, none⟩ (.string bs)) g pr rs nm bi ki sz bs vr vn lb LR :=
  ⟨below_set h.low h.hg 4 _, h.res.far (p := ⟨g, 4, none⟩) h.ne _, h.mak.set_ 4 _, World.ownsRow.kept h.row (grown_set wr g 4 _) (.inr (row_block h.mak h.row (by decide))), h.hg, h.hrs, h.out.far (p := ⟨g, 4, none⟩) h.ne2 _, h.hpr⟩
theorem MS.setV (h : MS W0 wr g pr rs nm bi ki sz bs vr vn lb LR) (v2 : Value) : MS W0 (wr.setCell ⟨g, 6, none⟩ v2) g pr rs nm bi ki sz bs vr v2 lb LR :=
  ⟨below_set h.low h.hg 6 _, h.res.far (p := ⟨g, 6, none⟩) h.ne _, h.mak.set_ 6 _, World.ownsRow.kept h.row (grown_set wr g 6 _) (.inr (row_block h.mak h.row (by decide))), h.hg, h.hrs, h.out.far (p := ⟨g, 6, none⟩) h.ne2 _, h.hpr⟩
theorem MS.facts (h : MS W0 wr g pr rs nm bi ki sz bs vr vn lb LR) : wr.cell? ⟨g, 0, none⟩ = some (.string nm) ∧ wr.cell? ⟨g, 4, none⟩ = some (.string bs) ∧ wr.cell? ⟨g, 6, none⟩ = some vn := ⟨h.mak.cell 0, h.mak.cell 4, h.mak.cell 6⟩
theorem MS.sym (h : MS W0 wr g pr rs nm bi ki sz bs vr vn lb LR) {LN : List Nt} (hn : NotesAt wr vn LN) : SymAt wr (.agg #[.string nm, .int .u8 bi, .int .u8 ki, .int .u32 sz, .string bs, vr, vn]) ⟨by' nm, bi, ki, sz, by' bs, LR, LN⟩ :=
  ⟨vr, vn, by rw [tx_by, tx_by], slC_of_row (fun _ _ => rfl) h.row, hn⟩
/-- A place of the row is written over with what it holds. -/
theorem MS.again (h : MS W0 wr g pr rs nm bi ki sz bs vr vn lb LR) {gr cap i : Nat} (hv : vr = .slice (some ⟨gr, 0, none⟩) LR.length cap) (hi : i < LR.length) :
    MS W0 (wr.setCell ⟨gr, i * 4 + 2, none⟩ (.string (tx (LR.getD i Rl.nought).name))) g pr rs nm bi ki sz bs vr vn lb LR ∧ wr.frozen? ⟨gr, i * 4 + 2, none⟩ = false ∧ gr < wr.heap.size ∧ wr.cell? ⟨gr, i * 4 + 2, none⟩ = some (.string (tx (LR.getD i Rl.nought).name)) ∧ gr ≠ g ∧ W0.heap.size ≤ gr := by
  have hrow := h.row
  unfold OwnR at hrow
  rw [hv] at hrow
  have hb1 := row_block h.mak h.row (by decide)
  have hb2 := row_block h.res h.row (by decide)
  have hb3 := row_block h.out h.row (by decide)
  rw [hv] at hb1 hb2 hb3
  simp only [Value.ownBlock, ne_eq, Option.some.injEq] at hb1 hb2 hb3
  have hlow := World.ownsRow.lt hrow gr rfl
  have hget : (flat (fun j => rlCells (LR.getD j Rl.nought)) LR.length)[i * 4 + 2]? = some (.string (tx (LR.getD i Rl.nought).name)) := by
    rw [flat_get LR.length (z := 4) (fun _ _ => rfl) i 2 hi (by omega)]
    rfl
  obtain ⟨s1, s2⟩ := World.ownsRow.stored hrow (i * 4 + 2) (.string (tx (LR.getD i Rl.nought).name))
  have hset : (flat (fun j => rlCells (LR.getD j Rl.nought)) LR.length).set (i * 4 + 2) (.string (tx (LR.getD i Rl.nought).name)) = flat (fun j => rlCells (LR.getD j Rl.nought)) LR.length := by
    obtain ⟨hl, he⟩ := List.getElem?_eq_some_iff.1 hget
    rw [← he]
    exact List.set_getElem_self hl
  rw [hset] at s1
  refine ⟨⟨below_set h.low hlow.1 _ _, h.res.far (p := ⟨gr, i * 4 + 2, none⟩) (fun e => hb2 e.symm) _, h.mak.far (p := ⟨gr, i * 4 + 2, none⟩) (fun e => hb1 e.symm) _, by unfold OwnR; rw [hv]; exact s1, h.hg, h.hrs, h.out.far (p := ⟨gr, i * 4 + 2, none⟩) (fun e => hb3 e.symm) _, h.hpr⟩, World.ownsRow.frozenAt hrow _, hlow.2, ?_, hb1, hlow.1⟩
  rw [World.ownsRow.cellAt hrow (i * 4 + 2) (by omega)]
  exact hget
end
theorem row_weak {w : World} {B B' z n : Nat} {e : TypeId} {v : Value} {xs : List Value} (h : w.ownsRow B e z v n xs) (hB : B' ≤ B) : w.ownsRow B' e z v n xs := by
  refine ⟨h.1, ?_⟩
  rcases h.2 with h2 | ⟨g, cap, cur, h1, h2, h3⟩
  · exact .inl h2
  · exact .inr ⟨g, cap, cur, h1, Nat.le_trans hB h2, h3⟩
theorem row_some {w : World} {B : Nat} {ar : Option Addr} {c : Nat} {LR : List Rl} (h : OwnR w B (.slice ar LR.length c) LR) (h0 : 0 < LR.length) : ∃ g, ar = some ⟨g, 0, none⟩ := by
  rcases h.2 with ⟨hv, _⟩ | ⟨g, cap, cur, hv, _⟩
  · injection hv with _ h2 _
    omega
  · injection hv with h1 _ _
    exact ⟨g, h1⟩
theorem row_four {w : World} {B g c k : Nat} {LR : List Rl} (h : OwnR w B (.slice (some ⟨g, 0, none⟩) LR.length c) LR) (hk : k < LR.length) : w.cell? ⟨g, k * 4, none⟩ = some (.int .u32 (LR.getD k Rl.nought).off) ∧ w.cell? ⟨g, k * 4 + 1, none⟩ = some (.int .u8 (LR.getD k Rl.nought).kind) ∧ w.cell? ⟨g, k * 4 + 2, none⟩ = some (.string (tx (LR.getD k Rl.nought).name)) ∧ w.cell? ⟨g, k * 4 + 3, none⟩ = some (.int .u32 (LR.getD k Rl.nought).add) := by
  have hc : ∀ i, i < 4 → w.cell? ⟨g, k * 4 + i, none⟩ = (rlCells (LR.getD k Rl.nought))[i]? := fun i hi => by
    rw [World.ownsRow.cellAt h (k * 4 + i) (by omega)]
    exact flat_get LR.length (z := 4) (fun _ _ => rfl) k i hk hi
  exact ⟨hc 0 (by omega), hc 1 (by omega), hc 2 (by omega), hc 3 (by omega)⟩
/-- What made leaves. -/
def MadP (W0 : World) (pr : Nat) (s : Sy) (e : Ending) (W' : World) : Prop :=
  Below W0.heap.size W0 W' ∧ Blk W' pr 29 zS ∧
  ((symOk s = true ∧ ∃ vr vn, e = .returned (.tuple #[.agg #[.string (tx s.name), .int .u8 s.bind, .int .u8 s.kind, .int .u32 s.size, .string (tx s.bytes), vr, vn], .int .i64 0]) ∧ OwnR W' W0.heap.size vr s.rels ∧ OwnN W' W0.heap.size vn s.notes) ∨
   (symOk s = false ∧ e = .returned (.tuple #[.agg #[.string ⟨#[]⟩, .int .u8 0, .int .u8 0, .int .u32 0, .string ⟨#[]⟩, .slice none 0 0, .slice none 0 0], .int .i64 2])))
theorem store7m {W : World} {g : Nat} {t : TypeId} {z0 z1 z2 z3 z4 z5 z6 : Value} (a0 a1 a2 a3 a4 a5 a6 : Value) (HG : Blk W g t [z0, z1, z2, z3, z4, z5, z6]) :
    ∀ W', W' = (((((((W.setCell ⟨g, 0, none⟩ a0).setCell ⟨g, 1, none⟩ a1).setCell ⟨g, 2, none⟩ a2).setCell ⟨g, 3, none⟩ a3).setCell ⟨g, 4, none⟩ a4).setCell ⟨g, 5, none⟩ a5).setCell ⟨g, 6, none⟩ a6) →
      Blk W' g t [a0, a1, a2, a3, a4, a5, a6] ∧ W.grownBy W' (some g) := by
  rintro W' rfl
  refine ⟨?_, ?_⟩
  · exact ((((((HG.set_ 0 a0).set_ 1 a1).set_ 2 a2).set_ 3 a3).set_ 4 a4).set_ 5 a5).set_ 6 a6
  · exact gb8 (gb8 (gb8 (gb8 (gb8 (gb8 (grown_set _ g 0 a0) (grown_set _ g 1 a1)) (grown_set _ g 2 a2)) (grown_set _ g 3 a3)) (grown_set _ g 4 a4)) (grown_set _ g 5 a5)) (grown_set _ g 6 a6)
end Go.Proofs.YtlnnhgmkibjgmaaDoor
end
