/- Some texts of one proof, one behind the other; each has its own head below. -/
import Derived.Test.YtlnnhgmkibjgmaaDoorX20
import Derived.Test.YtlnnhgmkibjgmaaDoorX24
import Derived.Test.YtlnnhgmkibjgmaaDoorX25
import Derived.Test.YtlnnhgmkibjgmaaDoorX16
import Derived.Test.YtlnnhgmkibjgmaaDoorX00
import Derived.Test.YtlnnhgmkibjgmaaDoorX26
import Derived.Laws.ResultCell
import Derived.Deep.Onto
import Derived.LoopTactic
/- What the document's Make goes by: its errors one by one, what stands while it goes on. -/
section
set_option linter.unusedVariables false
set_option linter.unusedSimpArgs false
namespace Go.Proofs.YtlnnhgmkibjgmaaDoor
open Go Go.RowKit Oj Al

theorem mk_long {nm : List UInt8} {bi : Int} {nt : List Nt} {l : List Ln} (h : 1024 < l.length) : mkE nm bi nt l = 5 ∧ mkS nm bi nt l = Sy.nought := by
  have e : mkE nm bi nt l = 5 := by unfold mkE; rw [if_pos h]
  exact ⟨e, by unfold mkS; rw [e, if_neg (by decide)]⟩
theorem mk_arg {nm : List UInt8} {bi : Int} {nt : List Nt} {l : List Ln} (h : ¬ 1024 < l.length) {k : Nat} (hk : k < l.length) (h2 : lnOk (l.getD k Ln.nought) = false) : mkE nm bi nt l = 2 ∧ mkS nm bi nt l = Sy.nought := by
  have e : mkE nm bi nt l = 2 := by unfold mkE; rw [if_neg h, if_pos (allN_false hk h2)]
  exact ⟨e, by unfold mkS; rw [e, if_neg (by decide)]⟩
theorem mk_have {nm : List UInt8} {bi : Int} {nt : List Nt} {l : List Ln} (h : ¬ 1024 < l.length) (h2 : ∀ k, k < l.length → lnOk (l.getD k Ln.nought) = true) {k : Nat} (hk : k < l.length) (h3 : lblOk l k = false) : mkE nm bi nt l = 9 ∧ mkS nm bi nt l = Sy.nought := by
  have e : mkE nm bi nt l = 9 := by unfold mkE; rw [if_neg h, if_neg (by rw [allN_true h2]; decide), if_pos (allN_false hk h3)]
  exact ⟨e, by unfold mkS; rw [e, if_neg (by decide)]⟩
theorem mk_none {nm : List UInt8} {bi : Int} {nt : List Nt} {l : List Ln} (h : ¬ 1024 < l.length) (h2 : ∀ k, k < l.length → lnOk (l.getD k Ln.nought) = true) (h3 : ∀ k, k < l.length → lblOk l k = true) {k : Nat} (hk : k < l.length) (h4 : toOk l k = false) : mkE nm bi nt l = 3 ∧ mkS nm bi nt l = Sy.nought := by
  have e : mkE nm bi nt l = 3 := by unfold mkE; rw [if_neg h, if_neg (by rw [allN_true h2]; decide), if_neg (by rw [allN_true h3]; decide), if_pos (allN_false hk h4)]
  exact ⟨e, by unfold mkS; rw [e, if_neg (by decide)]⟩
theorem mk_all {nm : List UInt8} {bi : Int} {nt : List Nt} {l : List Ln} (h : ¬ 1024 < l.length) (h2 : ∀ k, k < l.length → lnOk (l.getD k Ln.nought) = true) (h3 : ∀ k, k < l.length → lblOk l k = true) (h4 : ∀ k, k < l.length → toOk l k = true) :
    (symOk (symL nm bi nt l) = true → mkE nm bi nt l = 0 ∧ mkS nm bi nt l = symL nm bi nt l) ∧ (symOk (symL nm bi nt l) = false → mkE nm bi nt l = 2 ∧ mkS nm bi nt l = Sy.nought) := by
  have e : mkE nm bi nt l = if symOk (symL nm bi nt l) = true then 0 else 2 := by unfold mkE; rw [if_neg h, if_neg (by rw [allN_true h2]; decide), if_neg (by rw [allN_true h3]; decide), if_neg (by rw [allN_true h4]; decide)]
  constructor
  · intro h5
    rw [if_pos h5] at e
    exact ⟨e, by unfold mkS; rw [e, if_pos rfl]⟩
  · intro h5
    rw [if_neg (by rw [h5]; decide)] at e
    exact ⟨e, by unfold mkS; rw [e, if_neg (by decide)]⟩
/-- A line's own label is found at its place, or ahead of it. -/
theorem findL_own {l : List Ln} {k : Nat} (hk : k < l.length) : ∃ i, findL l (l.getD k Ln.nought).label = some i ∧ i ≤ k := by
  cases h : findL l (l.getD k Ln.nought).label with
  | none =>
    unfold findL at h
    rw [List.find?_range_eq_none] at h
    have := h k hk
    simp at this
  | some i =>
    refine ⟨i, rfl, ?_⟩
    rcases Nat.lt_or_ge k i with hlt | hge
    · exact absurd rfl ((findL_some h).2.2 k hlt)
    · exact hge
theorem lnOk_insn {x : Ln} (h : lnOk x = true) : I.Ix.insnOk x.op x.d x.a x.b (im0 x) = true := by
  unfold lnOk at h
  simp only [Bool.and_eq_true] at h
  exact h.1.1.1.1.1
theorem enc_line {x : Ln} (hf : lnFits x) (hok : lnOk x = true) (W : World) : Calls Tryd.prog 38 #[inV x.op x.d x.a x.b (im0 x)] W fun e w' => e = .returned (.tuple #[.string (tx (lineB x)), .int .i64 0]) ∧ Below W.heap.size W w' := by
  obtain ⟨f1, ⟨o0, o1⟩, ⟨d0, d1⟩, ⟨a0, a1⟩, ⟨b0, b1⟩, ⟨i0, i1⟩, f7, f8⟩ := hf
  have j0 : 0 ≤ im0 x := by unfold im0; split <;> omega
  have j1 : im0 x < 4294967296 := by unfold im0; split <;> omega
  have h := I.rencode_any x.op x.d x.a x.b (im0 x) o0 o1 d0 d1 a0 a1 b0 b1 j0 j1 W
  have hk := lnOk_insn hok
  have e1 : I.encS x.op x.d x.a x.b (im0 x) = tx (lineB x) := by unfold I.encS I.Ix.enc; rw [if_pos hk]; rfl
  have e2 : I.errI x.op x.d x.a x.b (im0 x) = 0 := by unfold I.errI I.Ix.err; rw [if_pos hk]
  rw [e1, e2] at h
  exact h
theorem getD_mem8 {α : Type} {l : List α} {d : α} {j : Nat} (h : j < l.length) : l.getD j d ∈ l := by
  rw [List.getD_eq_getElem?_getD, List.getElem?_eq_getElem h]
  exact List.getElem_mem h
theorem relsL_fits {nm : List UInt8} {l : List Ln} (hn : nm.length ≤ 140737488355328) (hf : lnsFit l) (hl : l.length ≤ 1024) : ∀ k, k ≤ l.length → ∀ x ∈ relsL nm l k, rlFits x
  | 0, _, x, hx => by cases hx
  | k + 1, hk, x, hx => by
    rw [relsL, List.mem_append] at hx
    rcases hx with hx | hx
    · exact relsL_fits hn hf hl k (by omega) x hx
    · obtain ⟨f1, f2, f3, f4, f5, f6, f7, f8⟩ := hf.2 k (by omega)
      unfold relsAt at hx
      rw [List.mem_append] at hx
      rcases hx with hx | hx
      · split at hx
        · rw [List.mem_singleton] at hx
          subst hx
          exact ⟨⟨by simp only; omega, by simp only; omega⟩, ⟨by simp only; omega, by simp only; omega⟩, f6, f8⟩
        · cases hx
      · split at hx
        · rw [List.mem_singleton] at hx
          subst hx
          have hi : ((findL l (l.getD k Ln.nought).to).getD 0 : Nat) < 1025 := by
            cases h : findL l (l.getD k Ln.nought).to with
            | none => simp
            | some i => have := (findL_some h).1; simp only [Option.getD_some]; omega
          exact ⟨⟨by simp only; omega, by simp only; omega⟩, ⟨by simp only; omega, by simp only; omega⟩, ⟨by simp only; omega, by simp only; omega⟩, hn⟩
        · cases hx
theorem symL_fits {nm : List UInt8} {bi : Int} {nt : List Nt} {l : List Ln} (hn : nm.length ≤ 140737488355328) (hb : 0 ≤ bi ∧ bi < 256) (hf : lnsFit l) (hl : l.length ≤ 1024) (hm : nt.length * 12 ≤ 140737488355328) (hs : ∀ j, j < nt.length → ntFits (nt.getD j Nt.nought)) : syFits (symL nm bi nt l) := by
  have q1 := relsL_le nm l l.length
  have q2 := bytesL_length l
  refine ⟨hn, hb, ⟨by simp only [symL]; omega, by simp only [symL]; omega⟩, ⟨by simp only [symL]; omega, by simp only [symL]; omega⟩, by simp only [symL]; omega, by simp only [symL]; omega, hm, fun j hj => ?_, hs⟩
  exact relsL_fits hn hf hl l.length (Nat.le_refl _) _ (getD_mem8 hj)
def zS : List Value := [.string ⟨#[]⟩, .int .u8 0, .int .u8 0, .int .u32 0, .string ⟨#[]⟩, .slice none 0 0, .slice none 0 0]
theorem infoSy7 : (Tryd.prog.info? 29).map (·.size) = some 7 := by kernel_rfl
/-- What a function hands back out of a variable that holds a symbol, and a number. -/
theorem res_sy_tmp {fn : Func} {p u : Tmp} (h : fn.results = #[.cell p 29, .tmp u]) (tmps : Array Value) (w : World) (k : Nat) (c0 c1 c2 c3 c4 c5 c6 v : Value) (hp : tmps.getD p undef = .pointer (some ⟨k, 0, none⟩)) (hv : tmps.getD u undef = v)
    (hb : Blk w k 29 [c0, c1, c2, c3, c4, c5, c6]) : (results fn tmps).run Tryd.prog w = .ok (.tuple #[.agg #[c0, c1, c2, c3, c4, c5, c6], v]) w := by
  have hb' : w.heap[k]? = some (.cells #[c0, c1, c2, c3, c4, c5, c6] 29 (0, 0)) := hb
  rw [results_cell_tmp h, hp, hv]
  simp [asAddr, Result.andThen, run_loadVar_row w k 29 29 _ (0, 0) _ hb' Tryd.underlying29 rfl infoSy7]
/-- What Make leaves. -/
def MkPost (w : World) (E : Int) (X : Sy) (e : Ending) (w' : World) : Prop := ∃ v, e = .returned (.tuple #[v, .int .i64 E]) ∧ SymAt w' v X ∧ Below w.heap.size w w'
theorem sy_zero (w : World) : SymAt w (.agg #[.string ⟨#[]⟩, .int .u8 0, .int .u8 0, .int .u32 0, .string ⟨#[]⟩, .slice none 0 0, .slice none 0 0]) Sy.nought :=
  ⟨.slice none 0 0, .slice none 0 0, rfl, ⟨none, 0, rfl, fun h => absurd h (by decide)⟩, ⟨none, 0, rfl, fun h => absurd h (by decide)⟩⟩
/-- What stands while Make goes on: the result's block; the symbol that is made. -/
structure Mk (w0 w : World) (g : Nat) (nm : ByteArray) (bi sz : Int) (bs : ByteArray) (vr vn : Value) (LR : List Rl) (LN : List Nt) : Prop where
  low : Below w0.heap.size w0 w
  res : Blk w w0.heap.size 29 zS
  ob : Blk w g 29 [.string nm, .int .u8 bi, .int .u8 1, .int .u32 sz, .string bs, vr, vn]
  rels : OwnR w w0.heap.size vr LR
  notes : OwnN w w0.heap.size vn LN
  hg : w0.heap.size < g
section
variable {w0 w w' : World} {g : Nat} {nm : ByteArray} {bi sz : Int} {bs : ByteArray} {vr vn : Value} {LR : List Rl} {LN : List Nt}
theorem Mk.below (h : Mk w0 w g nm bi sz bs vr vn LR LN) (hb : Below w.heap.size w w') : Mk w0 w' g nm bi sz bs vr vn LR LN :=
  ⟨below_call h.low hb, h.res.call hb, h.ob.call hb, row_below h.rels hb, row_below h.notes hb, h.hg⟩
theorem Mk.bytes (h : Mk w0 w g nm bi sz bs vr vn LR LN) (b2 : ByteArray) : Mk w0 (w.setCell ⟨g, 4, none⟩ (.string b2)) g nm bi sz b2 vr vn LR LN :=
  ⟨below_set h.low (Nat.le_of_lt h.hg) 4 _, h.res.far (p := ⟨g, 4, none⟩) (Nat.ne_of_lt h.hg) _, h.ob.set_ 4 _, World.ownsRow.kept h.rels (grown_set w g 4 _) (.inr (row_block h.ob h.rels (by decide))), World.ownsRow.kept h.notes (grown_set w g 4 _) (.inr (row_block h.ob h.notes (by decide))), h.hg⟩
theorem Mk.sets (h : Mk w0 w g nm bi sz bs vr vn LR LN) (v2 : Value) {LR2 : List Rl} (h2 : OwnR w w0.heap.size v2 LR2) : Mk w0 (w.setCell ⟨g, 5, none⟩ v2) g nm bi sz bs v2 vn LR2 LN :=
  ⟨below_set h.low (Nat.le_of_lt h.hg) 5 _, h.res.far (p := ⟨g, 5, none⟩) (Nat.ne_of_lt h.hg) _, h.ob.set_ 5 _, World.ownsRow.kept h2 (grown_set w g 5 _) (.inr (row_block h.ob h2 (by decide))), World.ownsRow.kept h.notes (grown_set w g 5 _) (.inr (row_block h.ob h.notes (by decide))), h.hg⟩
/-- A Rel more, in the row. -/
theorem Mk.grows (h : Mk w0 w g nm bi sz bs vr vn LR LN) {v2 : Value} {x : Rl} (hr : w'.ownsRow w0.heap.size 58 4 v2 (LR.length + 1) (flat (fun j => rlCells (LR.getD j Rl.nought)) LR.length ++ rlCells x)) (hg : w.grownBy w' vr.ownBlock) :
    OwnR w' w0.heap.size v2 (LR ++ [x]) ∧ Below w0.heap.size w0 w' ∧ Blk w' w0.heap.size 29 zS ∧ Blk w' g 29 [.string nm, .int .u8 bi, .int .u8 1, .int .u32 sz, .string bs, vr, vn] ∧ OwnN w' w0.heap.size vn LN := by
  refine ⟨?_, h.low.grown hg h.low.size (fun k hk => (World.ownsRow.lt h.rels k hk).1), h.res.grown hg (fun e => row_block h.res h.rels (by decide) e.symm), h.ob.grown hg (fun e => row_block h.ob h.rels (by decide) e.symm), World.ownsRow.kept h.notes hg (row_apart h.notes h.rels (by decide))⟩
  unfold OwnR
  have hcat : flat (fun j => rlCells (LR.getD j Rl.nought)) LR.length ++ rlCells x = flat (fun j => rlCells ((LR ++ [x]).getD j Rl.nought)) (LR ++ [x]).length := by
    rw [List.length_append, List.length_singleton, flat]
    congr 1
    · exact flat_congr _ (fun j hj => by rw [List.getD_eq_getElem?_getD, List.getD_eq_getElem?_getD, List.getElem?_append_left hj])
    · simp
  rw [← hcat, List.length_append]
  exact hr
theorem Mk.more (h : Mk w0 w g nm bi sz bs vr vn LR LN) {v2 : Value} {x : Rl} (hr : w'.ownsRow w0.heap.size 58 4 v2 (LR.length + 1) (flat (fun j => rlCells (LR.getD j Rl.nought)) LR.length ++ rlCells x)) (hg : w.grownBy w' vr.ownBlock) :
    Mk w0 (w'.setCell ⟨g, 5, none⟩ v2) g nm bi sz bs v2 vn (LR ++ [x]) LN := by
  obtain ⟨h1, h2, h3, h4, h5⟩ := h.grows hr hg
  exact ⟨below_set h2 (Nat.le_of_lt h.hg) 5 _, h3.far (p := ⟨g, 5, none⟩) (Nat.ne_of_lt h.hg) _, h4.set_ 5 _, World.ownsRow.kept h1 (grown_set w' g 5 _) (.inr (row_block h4 h1 (by decide))), World.ownsRow.kept h5 (grown_set w' g 5 _) (.inr (row_block h4 h5 (by decide))), h.hg⟩
theorem gb8 {a b c : World} {g : Nat} (h : a.grownBy b (some g)) (h2 : b.grownBy c (some g)) : a.grownBy c (some g) :=
  ⟨h2.os.trans h.os, h2.tape.trans h.tape, h2.output.trans h.output, Nat.le_trans h.size h2.size, fun k hk hn => (h2.block k (Nat.lt_of_lt_of_le hk h.size) hn).trans (h.block k hk hn)⟩
theorem Mk.kept (h : Mk w0 w g nm bi sz bs vr vn LR LN) (hg : w.grownBy w' (some w0.heap.size)) : SymAt w' (.agg #[.string nm, .int .u8 bi, .int .u8 1, .int .u32 sz, .string bs, vr, vn]) ⟨by' nm, bi, 1, sz, by' bs, LR, LN⟩ :=
  ⟨vr, vn, by rw [tx_by, tx_by], slC_of_row (fun _ _ => rfl) (World.ownsRow.kept h.rels hg (.inr (row_block h.res h.rels (by decide)))), slC_of_row (fun _ _ => rfl) (World.ownsRow.kept h.notes hg (.inr (row_block h.res h.notes (by decide))))⟩
theorem Mk.sym (h : Mk w0 w g nm bi sz bs vr vn LR LN) : SymAt w (.agg #[.string nm, .int .u8 bi, .int .u8 1, .int .u32 sz, .string bs, vr, vn]) ⟨by' nm, bi, 1, sz, by' bs, LR, LN⟩ :=
  ⟨vr, vn, by rw [tx_by, tx_by], slC_of_row (fun _ _ => rfl) h.rels, slC_of_row (fun _ _ => rfl) h.notes⟩
end
end Go.Proofs.YtlnnhgmkibjgmaaDoor
end

/- The program's insn.All of lines that may be. -/
section
set_option linter.unusedVariables false
set_option linter.unusedSimpArgs false
namespace Go.Proofs.YtlnnhgmkibjgmaaDoor
open Go Go.RowKit Oj Al

theorem ib_below {T e : TypeId} {B b : Nat} {bs : List Value} {w w' : World} (h : Lib.IsBuilder T e B b bs w) (hb : Below w.heap.size w w') : Lib.IsBuilder T e B b bs w' := by
  have key : ∀ p, Lib.BuilderAt T e B b p bs w → Lib.BuilderAt T e B b p bs w' := by
    rintro p ⟨hB, v, hbk, hown, hne⟩
    refine ⟨hB, v, (hb.block b (lt_of_heap hbk)).trans hbk, ⟨hown.1, ?_⟩, hne⟩
    rcases hown.2 with h0 | ⟨g, cap, cur, hv, hBg, hg, r⟩
    · exact .inl h0
    · exact .inr ⟨g, cap, cur, hv, hBg, (hb.block g (lt_of_heap hg)).trans hg, r⟩
  rcases h with h | h
  · exact Or.inl (key _ h)
  · exact Or.inr (key _ h)
theorem liesS : LiesB 104 := ⟨by decide, by kernel_rfl⟩
/-- The cells of a line's instruction, as its bytes have it. -/
def inL (x : Ln) : List Value := [.int .u8 x.op, .int .u8 x.d, .int .u8 x.a, .int .u8 x.b, .int .u32 (im0 x)]
set_option maxHeartbeats 2000000 in
set_option maxRecDepth 100000 in
theorem iall_any (l : List Ln) (v : Value) (w : World) (hl : l.length ≤ 1024) (hT : I.Tabled w) (hA : SlC w v l.length 5 fun j => inL (l.getD j Ln.nought)) (hF : lnsFit l) (hok : ∀ k, k < l.length → lnOk (l.getD k Ln.nought) = true) :
    Calls Tryd.prog 53 #[v] w fun e w' => e = .returned (.tuple #[.string (tx (bytesL l)), .int .i64 0]) ∧ Below w.heap.size w w' := by
  obtain ⟨ao, c, rfl, h2⟩ := hA
  have HI := Lib.hid (Lib.fresh_isBuilder 104 5 w)
  have HE : Hid (∀ k, k < l.length → ∀ W, Below w.heap.size w W → Calls Tryd.prog 72 #[inV (l.getD k Ln.nought).op (l.getD k Ln.nought).d (l.getD k Ln.nought).a (l.getD k Ln.nought).b (im0 (l.getD k Ln.nought))] W fun e w' => e = .returned (.tuple #[.string (tx (lineB (l.getD k Ln.nought))), .int .i64 0]) ∧ Below W.heap.size W w') := Lib.hid (fun k hk W hW => by
    obtain ⟨f1, ⟨o0, o1⟩, ⟨d0, d1⟩, ⟨a0, a1⟩, ⟨b0, b1⟩, ⟨i0, i1⟩, f7, f8⟩ := hF.2 k hk
    have q := lnOk_insn (hok k hk)
    obtain ⟨x, hx⟩ : ∃ x, x = l.getD k Ln.nought := ⟨_, rfl⟩
    rw [← hx] at o0 o1 d0 d1 a0 a1 b0 b1 i0 i1 q ⊢
    have j0 : 0 ≤ im0 x := by unfold im0; split <;> omega
    have j1 : im0 x < 4294967296 := by unfold im0; split <;> omega
    have h := I.iencode_any x.op x.d x.a x.b (im0 x) o0 o1 d0 d1 a0 a1 b0 b1 j0 j1 W (hT.below hW)
    have e1 : I.encS x.op x.d x.a x.b (im0 x) = tx (lineB x) := by unfold I.encS I.Ix.enc; rw [if_pos q]; rfl
    have e2 : I.errI x.op x.d x.a x.b (im0 x) = 0 := by unfold I.errI I.Ix.err; rw [if_pos q]
    rw [e1, e2] at h
    exact h)
  have H2 := Lib.hid h2
  have HC : Hid (∀ k, k < l.length → bytesL (l.take (k + 1)) = bytesL (l.take k) ++ lineB (l.getD k Ln.nought)) := Lib.hid (bytesL_snoc l)
  have HLn : Hid (∀ k, (bytesL (l.take k)).length ≤ 8192) := Lib.hid (fun k => by rw [bytesL_length, List.length_take]; omega)
  have HALL : Hid (bytesL (l.take l.length) = bytesL l) := Lib.hid (by rw [List.take_length])
  obtain ⟨n, hn⟩ : ∃ n, n = l.length := ⟨_, rfl⟩
  have hni : (n : Int) ≤ 1024 := by omega
  rw [← hn] at HE H2 HC HALL ⊢
  have HB0 := Lib.hid ((Below.refl w.heap.size w).alloc (Nat.le_refl _) (.cells #[.pointer none, .slice none 0 0] 104))
  unfold inV at HE
  clear hn hl hT hF hok h2
  go_enter Tryd.func53, Tryd.ntmps53
  go_wp2
  go_loopw [11] (fun i wr => ∃ k : Nat, (k : Int) ≤ n ∧ i = .int .i64 k ∧ Hid (Lib.IsBuilder 104 5 w.heap.size w.heap.size (Lib.byteCells (bytesL (l.take k))) wr) ∧ Hid (Below w.heap.size w wr)) (fun i _ => n - (intOf i).toNat)
  case atStart => exact ⟨0, by omega, rfl, HI, HB0⟩
  case round =>
    obtain ⟨k, hk, rfl, hB, hb⟩ := hrel
    by_cases hlt : k < n
    · obtain ⟨g, o, rfl, hbl, hcl⟩ := H2.out (by omega)
      have HEk := HE.out k hlt
      have hct := HC.out k hlt
      obtain ⟨x, hx⟩ : ∃ x, x = l.getD k Ln.nought := ⟨_, rfl⟩
      have hcx := hcl k hlt
      rw [← hx] at HEk hct hcx
      obtain ⟨op, hop⟩ : ∃ t, t = x.op := ⟨_, rfl⟩
      obtain ⟨d, hd⟩ : ∃ t, t = x.d := ⟨_, rfl⟩
      obtain ⟨a, ha⟩ : ∃ t, t = x.a := ⟨_, rfl⟩
      obtain ⟨b, hbv⟩ : ∃ t, t = x.b := ⟨_, rfl⟩
      obtain ⟨im, him⟩ : ∃ t, t = im0 x := ⟨_, rfl⟩
      obtain ⟨S, hS⟩ : ∃ S, S = tx (lineB x) := ⟨_, rfl⟩
      unfold inL at hcx
      rw [← hop, ← hd, ← ha, ← hbv, ← him] at HEk hcx
      rw [← hS] at HEk
      have c0 := (hb.out.cell (p := ⟨g, o + k * 5 + 0, none⟩) hbl).trans (hcx 0 _ rfl)
      have c1 := (hb.out.cell (p := ⟨g, o + k * 5 + 1, none⟩) hbl).trans (hcx 1 _ rfl)
      have c2 := (hb.out.cell (p := ⟨g, o + k * 5 + 2, none⟩) hbl).trans (hcx 2 _ rfl)
      have c3 := (hb.out.cell (p := ⟨g, o + k * 5 + 3, none⟩) hbl).trans (hcx 3 _ rfl)
      have c4 := (hb.out.cell (p := ⟨g, o + k * 5 + 4, none⟩) hbl).trans (hcx 4 _ rfl)
      rw [Nat.add_zero] at c0
      have HEW := Lib.hid (fun W hW => HEk W hW)
      have HC2 : Hid (Lib.byteCells (bytesL (l.take k)) ++ Lib.byteCells S.data.toList = Lib.byteCells (bytesL (l.take (k + 1)))) := Lib.hid (by
        rw [hct, Lib.byteCells_append, hS]; rfl)
      have HSZ : Hid (S.size = 8) := Lib.hid (by rw [hS]; exact lineB_length x)
      have HCL : Hid ((Lib.byteCells (bytesL (l.take k))).length ≤ 8192) := Lib.hid (by rw [Lib.byteCells_length]; exact HLn.out k)
      have hb2 := Lib.hid (hb.out.alloc hb.out.size (.cells #[.int .u8 op, .int .u8 d, .int .u8 a, .int .u8 b, .int .u32 im] 40))
      have HB2 := Lib.hid (ib_below hB.out (below_new1 wr (.cells #[.int .u8 op, .int .u8 d, .int .u8 a, .int .u8 b, .int .u32 im] 40)))
      have hdk : decide (k < n) = true := decide_eq_true hlt
      clear HEk hct hcx hcl hx hop hd ha hbv him hS hB hb
      go_wp2_with fail
      refine (HEW.out _ hb2.out).mono ?_
      rintro e w1 ⟨rfl, q⟩
      have hb3 := Lib.hid (hb2.out.trans (q.mono hb2.out.size))
      have HB3 := Lib.hid (ib_below HB2.out q)
      clear HB2 HEW q hb2 c0 c1 c2 c3 c4
      go_wp2_with fail
      refine (I.writes_any liesS w.heap.size w.heap.size _ S w1 HB3.out (by rw [HSZ.out]; have := HCL.out; omega) hb3.out.size).mono ?_
      rintro e w2 ⟨rfl, q1, q2⟩
      have q3 : Hid (Lib.IsBuilder 104 5 w.heap.size w.heap.size (Lib.byteCells (bytesL (l.take (k + 1)))) w2) := by
        rw [← HC2.out]; exact Lib.hid (Or.inr q1)
      have hb' := Lib.hid (hb3.out.trans q2)
      clear q1 q2 hb3 HB3 HC2 HSZ HCL
      go_wp2_with fail
      go_roundw
      case rel => exact ⟨k + 1, by omega, by go_num, q3, hb'⟩
      case measure => simp [intOf]; omega
    · obtain rfl : k = n := by omega
      rw [HALL.out] at hB
      clear hlt hk
      go_wp2_with fail
      refine (string_any w.heap.size w.heap.size _ wr hB.out hb.out.size).mono ?_
      rintro e w1 ⟨rfl, q⟩
      have HQ := Lib.hid (hb.out.trans q)
      clear q
      go_wp2_with fail
      go_ret2
      exact ⟨rfl, HQ.out⟩
end Go.Proofs.YtlnnhgmkibjgmaaDoor
end
