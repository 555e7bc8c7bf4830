/- Some texts of one proof, one behind the other; each has its own head below. -/
import Derived.Test.YtbpdoiikleaidaaX15
import Derived.Test.YtbpdoiikleaidaaX20
import Derived.Test.YtbpdoiikleaidaaX01
import Derived.Deep.DeepCutAuto
import Derived.IntWalk
import Derived.Laws.ResultCell
/- The document's sym: a symbol, read. -/
section
set_option linter.unusedVariables false
set_option linter.unusedSimpArgs false
namespace Go.Proofs.Ytbpdoiikleaidaa
open Go Go.RowKit Oj Pk Of

theorem gb_trans {a b c : World} {g : Nat} (h : a.grownBy b (some g)) (h2 : b.grownBy c (some g)) : a.grownBy c (some g) :=
  ⟨h2.os.trans h.os, h2.tape.trans h.tape, h2.output.trans h.output, Nat.le_trans h.size h2.size, fun k hk hn => (h2.block k (Nat.lt_of_lt_of_le hk h.size) hn).trans (h.block k hk hn)⟩
theorem gb_new {a b c : World} {g : Nat} (h : a.grownBy b (some g)) {row : Option Nat} (h2 : b.grownBy c row) (hr : ∀ k, row = some k → a.heap.size ≤ k) : a.grownBy c (some g) :=
  ⟨h2.os.trans h.os, h2.tape.trans h.tape, h2.output.trans h.output, Nat.le_trans h.size h2.size, fun k hk hn => (h2.block k (Nat.lt_of_lt_of_le hk h.size) (fun e => by have := hr k e.symm; omega)).trans (h.block k hk hn)⟩
def zeroS : List Value := [.string ⟨#[]⟩, .int .u8 0, .int .u8 0, .int .u32 0, .string ⟨#[]⟩, .slice none 0 0, .slice none 0 0]
/-- What stands while a symbol is read. -/
structure Ds (w0 w : World) (g g2 gs : Nat) (r : Rd) (cs : List Value) : Prop where
  rd : RdAt w g r
  res : Blk w g2 47 zeroS
  sym : Blk w gs 47 cs
  low : w0.grownBy w (some g)
  h0 : g < w0.heap.size
  h2 : w0.heap.size ≤ g2
  hs : w0.heap.size ≤ gs
  ne : g2 ≠ gs
section
variable {w0 w w' : World} {g g2 gs : Nat} {r r2 : Rd} {cs : List Value}
theorem Ds.read (h : Ds w0 w g g2 gs r cs) (hr : RdAt w' g r2) (hg : w.grownBy w' (some g)) : Ds w0 w' g g2 gs r2 cs :=
  ⟨hr, h.res.grown hg (fun e => by cases e; have := h.h0; have := h.h2; omega), h.sym.grown hg (fun e => by cases e; have := h.h0; have := h.hs; omega), gb_trans h.low hg, h.h0, h.h2, h.hs, h.ne⟩
theorem Ds.set_ (h : Ds w0 w g g2 gs r cs) (i : Nat) (u : Value) : Ds w0 (w.setCell ⟨gs, i, none⟩ u) g g2 gs r (cs.set i u) :=
  ⟨Blk.far h.rd (p := ⟨gs, i, none⟩) (by have := h.h0; have := h.hs; show g ≠ gs; omega) u, h.res.far (p := ⟨gs, i, none⟩) h.ne u, h.sym.set_ i u, gb_new h.low (grown_set w gs i u) (fun k hk => by cases hk; exact h.hs), h.h0, h.h2, h.hs, h.ne⟩
theorem Ds.alloc (h : Ds w0 w g g2 gs r cs) (o : Obj) : Ds w0 (w.alloc o) g g2 gs r cs :=
  ⟨Blk.alloc h.rd o, h.res.alloc o, h.sym.alloc o, gb_new h.low (World.grownBy_alloc w o none) (fun k hk => by cases hk), h.h0, h.h2, h.hs, h.ne⟩
/-- Another block of the call's own has turned. -/
theorem Ds.other (h : Ds w0 w g g2 gs r cs) {row : Option Nat} (hg : w.grownBy w' row) (hr : ∀ k, row = some k → w0.heap.size ≤ k ∧ k ≠ g2 ∧ k ≠ gs) : Ds w0 w' g g2 gs r cs :=
  ⟨Blk.grown h.rd hg (fun e => by have := hr g e.symm; have := h.h0; omega), h.res.grown hg (fun e => (hr g2 e.symm).2.1 rfl), h.sym.grown hg (fun e => (hr gs e.symm).2.2 rfl), gb_new h.low hg (fun k hk => (hr k hk).1), h.h0, h.h2, h.hs, h.ne⟩
/-- Own rows stand. -/
theorem Ds.row (h : Ds w0 w g g2 gs r cs) (hg : w.grownBy w' (some g)) {e : TypeId} {z n : Nat} {v : Value} {xs : List Value} (ho : w.ownsRow w0.heap.size e z v n xs) : w'.ownsRow w0.heap.size e z v n xs :=
  ho.kept hg (by
    cases hv : v.ownBlock with
    | none => left; rfl
    | some k => right; intro he; cases he; have := (World.ownsRow.lt ho _ hv).1; have := h.h0; omega)
end
theorem u8_small {n : Nat} (h : n < 256) : IntKind.u8.wrap (n : Int) = n := IntWalk.u8_in _ (by omega)
theorem num1_lt (r : Rd) : (num r 1).1 < 256 := by
  by_cases h : (num r 1).2.E = 0
  · have := (num_back (r := r) 1 (by decide) (by decide) h).2
    rw [pow1] at this
    exact this
  · rw [(num_fault h).1]; decide
theorem num2_lt (r : Rd) : (num r 2).1 < 65536 := by
  by_cases h : (num r 2).2.E = 0
  · have := (num_back (r := r) 2 (by decide) (by decide) h).2
    rw [pow2] at this
    exact this
  · rw [(num_fault h).1]; decide
theorem num4_lt (r : Rd) : (num r 4).1 < 4294967296 := by
  by_cases h : (num r 4).2.E = 0
  · have := (num_back (r := r) 4 (by decide) (by decide) h).2
    rw [pow4] at this
    exact this
  · rw [(num_fault h).1]; decide
theorem many_step {α : Type} {f : Rd → α × Rd} {n : Nat} {r : Rd} (h : r.E = 0) : many f (n + 1) r = ((f r).1 :: (many f n (f r).2).1, (many f n (f r).2).2) := by
  rw [many, if_neg (fun h2 => h2 h)]

theorem many_len {α : Type} {f : Rd → α × Rd} (hf : ∀ r, (f r).2.S.length ≤ r.S.length) : ∀ (n : Nat) (r : Rd), (many f n r).2.S.length ≤ r.S.length
  | 0, r => Nat.le_refl _
  | n + 1, r => by
    unfold many
    split
    · exact Nat.le_refl _
    · exact Nat.le_trans (many_len hf n (f r).2) (hf r)
theorem rdR_len (r : Rd) : (rdR r).2.S.length ≤ r.S.length := by
  unfold rdR
  exact Nat.le_trans (num_len 4) (Nat.le_trans text_len (Nat.le_trans (num_len 1) (num_len 4)))
theorem rdN_len (r : Rd) : (rdN r).2.S.length ≤ r.S.length := by
  unfold rdN
  exact Nat.le_trans (num_len 4) (Nat.le_trans (num_len 4) (num_len 1))
end Go.Proofs.Ytbpdoiikleaidaa
end

/- What was read fits; what may be fits its bytes, and they are few. -/
section
set_option linter.unusedVariables false
namespace Go.Proofs.Ytbpdoiikleaidaa
open Go Go.RowKit Oj Pk Of

theorem infoOb : (Try.prog.info? 24).map (·.size) = some 2 := by kernel_rfl
/-- What a function hands back out of a variable that holds an object, and a number. -/
theorem res_ob_tmp {fn : Func} {p u : Tmp} (h : fn.results = #[.cell p 24, .tmp u]) (tmps : Array Value) (w : World) (k : Nat) (a b v : Value) (hp : tmps.getD p undef = .pointer (some ⟨k, 0, none⟩)) (hv : tmps.getD u undef = v)
    (hb : Blk w k 24 [a, b]) : (results fn tmps).run Try.prog w = .ok (.tuple #[.agg #[a, b], v]) w := by
  have hb' : w.heap[k]? = some (.cells #[a, b] 24 (0, 0)) := hb
  rw [results_cell_tmp h, hp, hv]
  simp [asAddr, Result.andThen, run_loadVar_row w k 24 24 _ (0, 0) _ hb' Try.underlying24 rfl infoOb]
/-- An object of a call's own: its rows lie at B or behind it. -/
def ObOwn (w : World) (B : Nat) (v : Value) (o : Ob) : Prop := ∃ a c R N, v = .agg #[.string (tx o.name), .slice a o.syms.length c] ∧ Cp8 w B o.syms o.syms.length (.slice a o.syms.length c) R N
theorem ObOwn.ob {w : World} {B : Nat} {v : Value} {o : Ob} (h : ObOwn w B v o) : ObAt w v o := by
  obtain ⟨a, c, R, N, rfl, h2⟩ := h
  exact ⟨_, rfl, h2.syms⟩
/-- What a call that reads an object answers: the object, or none and ErrForm. -/
def GetPost (B : Nat) (G : Option Ob) (c : Int) (v : Value) (w : World) : Prop :=
  match G with
  | some o => c = 0 ∧ ObOwn w B v o
  | none => c = 7 ∧ v = .agg #[.string ⟨#[]⟩, .slice none 0 0]

theorem getD_mem {α : Type} {l : List α} {d : α} {j : Nat} (h : j < l.length) : l.getD j d ∈ l := by
  rw [List.getD_eq_getElem?_getD, List.getElem?_eq_getElem h]
  exact List.getElem_mem h
theorem getD_of {α : Type} {l : List α} {d x : α} (h : x ∈ l) : ∃ j, j < l.length ∧ l.getD j d = x := by
  obtain ⟨j, hj, e⟩ := List.mem_iff_getElem.1 h
  exact ⟨j, hj, by rw [List.getD_eq_getElem?_getD, List.getElem?_eq_getElem hj]; exact e⟩
theorem take_one_len (r : Rd) (n : Int) : (take r n).1.length ≤ r.S.length := by
  unfold take
  split
  · simp
  · split
    · simp
    · split
      · simp
      · simp only [List.length_take]; omega
theorem text_one_len (r : Rd) : (text r).1.length ≤ r.S.length := by
  unfold text
  split
  · simp
  · split
    · simp
    · exact Nat.le_trans (take_one_len _ _) (num_len 2)
theorem many_count {α : Type} {f : Rd → α × Rd} : ∀ (n : Nat) (r : Rd), (many f n r).1.length ≤ n
  | 0, r => Nat.le_refl _
  | n + 1, r => by
    unfold many
    split
    · simp
    · simp only [List.length_cons]; have := many_count (f := f) n (f r).2; omega
theorem many_all {α : Type} {f : Rd → α × Rd} {ok : α → Prop} {B : Nat} (hf : ∀ r, r.S.length ≤ B → ok (f r).1) (hl : ∀ r, (f r).2.S.length ≤ r.S.length) : ∀ (n : Nat) (r : Rd), r.S.length ≤ B → ∀ x ∈ (many f n r).1, ok x
  | 0, r, _, x, hx => by cases hx
  | n + 1, r, h, x, hx => by
    unfold many at hx
    split at hx
    · cases hx
    · simp only at hx
      rcases List.mem_cons.1 hx with rfl | hx
      · exact hf r h
      · exact many_all hf hl n (f r).2 (Nat.le_trans (hl r) h) x hx
theorem rdR_fits (r : Rd) (h : r.S.length ≤ 4194304) : rlFits (rdR r).1 := by
  unfold rdR
  simp only
  have a := num4_lt r
  have b := num1_lt (num r 4).2
  have c := Nat.le_trans (text_one_len (num (num r 4).2 1).2) (Nat.le_trans (num_len 1) (num_len 4))
  have d := num4_lt (text (num (num r 4).2 1).2).2
  exact ⟨⟨by simp only; omega, by simp only; omega⟩, ⟨by simp only; omega, by simp only; omega⟩, ⟨by simp only; omega, by simp only; omega⟩, by simp only; omega⟩
theorem rdN_fits (r : Rd) : ntFits (rdN r).1 := by
  unfold rdN
  simp only
  have a := num1_lt r
  have b := num4_lt (num r 1).2
  have c := num4_lt (num (num r 1).2 4).2
  exact ⟨⟨by simp only; omega, by simp only; omega⟩, ⟨by simp only; omega, by simp only; omega⟩, ⟨by simp only; omega, by simp only; omega⟩⟩
theorem rdS_fits (r : Rd) (h : r.S.length ≤ 4194304) : syFits (rdS r).1 := by
  unfold rdS
  simp only
  have a0 := text_one_len r
  have q1 := text_len (r := r)
  generalize (text r).2 = r1 at q1 ⊢
  have a1 := num1_lt r1
  have q2 := num_len (r := r1) 1
  generalize (num r1 1).2 = r2 at q2 ⊢
  have a2 := num1_lt r2
  have q3 := num_len (r := r2) 1
  generalize (num r2 1).2 = r3 at q3 ⊢
  have a3 := num4_lt r3
  have q4 := num_len (r := r3) 4
  generalize (num r3 4).2 = r4 at q4 ⊢
  have a4 := text_one_len r4
  have q5 := text_len (r := r4)
  generalize (text r4).2 = r5 at q5 ⊢
  have a5 := num2_lt r5
  have q6 := num_len (r := r5) 2
  generalize (num r5 2).2 = r6 at q6 ⊢
  have a6 := many_count (f := rdR) (num r5 2).1 r6
  have b6 := many_all (f := rdR) (ok := rlFits) (B := 4194304) (fun r hr => rdR_fits r hr) rdR_len (num r5 2).1 r6 (by omega)
  generalize (many rdR (num r5 2).1 r6).2 = r7
  have a7 := num1_lt r7
  generalize (num r7 1).2 = r8
  have a8 := many_count (f := rdN) (num r7 1).1 r8
  have b8 := many_all (f := rdN) (ok := ntFits) (B := r8.S.length) (fun r hr => rdN_fits r) rdN_len (num r7 1).1 r8 (Nat.le_refl _)
  refine ⟨by simp only; omega, ⟨by simp only; omega, by simp only; omega⟩, ⟨by simp only; omega, by simp only; omega⟩, ⟨by simp only; omega, by simp only; omega⟩, by simp only; omega, by simp only; omega, by simp only; omega, fun j hj => b6 _ (getD_mem hj), fun j hj => b8 _ (getD_mem hj)⟩
theorem rdS_len' (r : Rd) : (rdS r).2.S.length ≤ r.S.length := by
  unfold rdS
  exact Nat.le_trans (many_len rdN_len _ _) (Nat.le_trans (num_len 1) (Nat.le_trans (many_len rdR_len _ _) (Nat.le_trans (num_len 2) (Nat.le_trans text_len (Nat.le_trans (num_len 4) (Nat.le_trans (num_len 1) (Nat.le_trans (num_len 1) text_len)))))))
/-- What a reading of an object has read fits. -/
theorem rd_obFits {nm : List UInt8} {n : Nat} {r : Rd} (h0 : nm.length ≤ 4194304) (hn : n < 65536) (h : r.S.length ≤ 4194304) : obFits ⟨nm, (many rdS n r).1⟩ := by
  have a := many_count (f := rdS) n r
  refine ⟨by simp only; omega, by simp only; omega, fun j hj => ?_⟩
  exact many_all (f := rdS) (ok := syFits) (fun r hr => rdS_fits r hr) rdS_len' n r h _ (getD_mem hj)

/-! what may be is of few bytes -/
theorem name_len {l : List UInt8} (h : nameOk l = true) : l.length ≤ 32 := by
  unfold nameOk at h
  rw [Bool.and_eq_true, decide_eq_true_eq] at h
  exact h.1.2
theorem sym_small {s : Sy} (h : symOk s = true) : s.name.length ≤ 32 ∧ s.bytes.length ≤ 8192 ∧ s.rels.length ≤ 1024 ∧ s.notes.length ≤ 8 ∧ ∀ x ∈ s.rels, x.name.length ≤ 32 := by
  unfold symOk at h
  simp only [Bool.and_eq_true] at h
  obtain ⟨⟨⟨⟨⟨h1, h2⟩, h3⟩, h4⟩, h5⟩, h6⟩ := h
  unfold sizeOk at h4
  unfold relsOk at h5
  unfold notesOk at h6
  rw [decide_eq_true_eq] at h4
  rw [Bool.and_eq_true, decide_eq_true_eq] at h5 h6
  refine ⟨name_len h1, by omega, h5.1, h6.1, fun x hx => ?_⟩
  obtain ⟨j, hj, e⟩ := getD_of (d := Rl.nought) hx
  have h7 := allN_at h5.2 hj
  unfold relOk at h7
  rw [Bool.and_eq_true, e] at h7
  exact name_len h7.2
theorem sym_at {l : List Sy} (h : symsOk l = true) : ∀ s ∈ l, symOk s = true := by
  intro s hs
  obtain ⟨j, hj, e⟩ := getD_of (d := Sy.nought) hs
  have h7 := allN_at (show allN l.length _ = true from h) hj
  rw [Bool.and_eq_true, e] at h7
  exact h7.1
theorem inS_of {s : Sy} (hf : syFits s) (h : symOk s = true) : inS s := by
  obtain ⟨h1, h2, h3, h4, h5⟩ := sym_small h
  obtain ⟨f1, f2, f3, f4, f5, f6, f7, f8, f9⟩ := hf
  refine ⟨by omega, f2, f3, f4, by omega, by omega, fun x hx => ?_, by omega, fun x hx => ?_⟩
  · obtain ⟨j, hj, e⟩ := getD_of (d := Rl.nought) hx
    have g := f8 j hj
    rw [e] at g
    exact ⟨g.1, g.2.1, by have := h5 x hx; omega, g.2.2.1⟩
  · obtain ⟨j, hj, e⟩ := getD_of (d := Nt.nought) hx
    have g := f9 j hj
    rw [e] at g
    exact ⟨g.1, g.2.1, g.2.2⟩
theorem ob_parts {o : Ob} (h : obOk o = true) : o.name.length ≤ 32 ∧ o.syms.length ≤ 64 ∧ ∀ s ∈ o.syms, symOk s = true := by
  unfold obOk at h
  rw [Bool.and_eq_true, Bool.and_eq_true, decide_eq_true_eq] at h
  exact ⟨name_len h.1.1, h.1.2, sym_at h.2⟩
theorem inO_of {o : Ob} (hf : obFits o) (h : obOk o = true) : inO o := by
  obtain ⟨h1, h2, h3⟩ := ob_parts h
  refine ⟨by omega, by omega, fun s hs => ?_⟩
  obtain ⟨j, hj, e⟩ := getD_of (d := Sy.nought) hs
  have g := hf.2.2 j hj
  rw [e] at g
  exact inS_of g (h3 s hs)
theorem flat_len {α : Type} (f : α → List UInt8) (B : Nat) : ∀ (l : List α), (∀ x ∈ l, (f x).length ≤ B) → (l.map f).flatten.length ≤ l.length * B
  | [], _ => by simp
  | x :: l, h => by
    have ih := flat_len f B l (fun y hy => h y (List.mem_cons_of_mem _ hy))
    have hx := h x List.mem_cons_self
    simp only [List.map_cons, List.flatten_cons, List.length_append, List.length_cons]
    rw [Nat.add_mul]
    omega
theorem encR_len {x : Rl} (h : x.name.length ≤ 32) : (encR x).length ≤ 43 := by
  unfold encR txt
  simp only [List.length_append, Wd.le_length]
  omega
theorem encN_len (x : Nt) : (encN x).length = 9 := by
  unfold encN
  simp only [List.length_append, Wd.le_length]
theorem encS_len {s : Sy} (h : symOk s = true) : (encS s).length ≤ 52341 := by
  obtain ⟨h1, h2, h3, h4, h5⟩ := sym_small h
  have a := flat_len encR 43 s.rels (fun x hx => encR_len (h5 x hx))
  have b := flat_len encN 9 s.notes (fun x hx => by rw [encN_len]; exact Nat.le_refl _)
  unfold encS encRs encNs txt
  simp only [List.length_append, Wd.le_length]
  omega
theorem encO_len {o : Ob} (h : obOk o = true) : (encO o).length ≤ 4194304 := by
  obtain ⟨h1, h2, h3⟩ := ob_parts h
  have a := flat_len encS 52341 o.syms (fun x hx => encS_len (h3 x hx))
  unfold encO encSs txt magic
  simp only [List.length_append, Wd.le_length, List.length_cons, List.length_nil]
  omega
end Go.Proofs.Ytbpdoiikleaidaa
end
