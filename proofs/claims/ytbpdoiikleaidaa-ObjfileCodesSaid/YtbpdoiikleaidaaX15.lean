/- Some texts of one proof, one behind the other; each has its own head below. -/
import Derived.Test.YtbpdoiikleaidaaX05
import Derived.Test.YtbpdoiikleaidaaX01
import Derived.Test.YtbpdoiikleaidaaX09
import Derived.Test.YtbpdoiikleaidaaX14
/- Objects as bytes, and bytes as objects, as plain functions. -/
section
namespace Go.Proofs.Ytbpdoiikleaidaa.Of
open Oj Pk

/-! a reader with an error reads no more; what was read stands ahead of what is left -/
section
variable {r : Rd}
theorem num_from {n : Int} (h : (num r n).2.E = 0) : r.E = 0 := by
  unfold num take at h
  by_cases h0 : r.E = 0
  · exact h0
  · rw [if_neg (by omega), if_pos h0] at h; exact h
theorem num_stuck {n : Int} (h : r.E ≠ 0) : num r n = (0, r) := by
  unfold num take
  rw [if_neg (fun h2 => h h2.1), if_pos h]
  rfl
theorem text_from (h : (text r).2.E = 0) : r.E = 0 := by
  apply Decidable.byContradiction
  intro h0
  have h1 : (num r 2).2.E ≠ 0 := by rw [num_stuck h0]; exact h0
  unfold text at h
  rw [if_pos h1] at h
  exact h1 h
theorem text_stuck (h : r.E ≠ 0) : text r = ([], r) := by
  have h1 : (num r 2).2.E ≠ 0 := by rw [num_stuck h]; exact h
  unfold text
  rw [if_pos h1, num_stuck h]
theorem num_back (n : Nat) (h1 : 1 ≤ n) (h4 : n ≤ 4) (h : (num r (n : Int)).2.E = 0) : r.S = Wd.le (num r n).1 n ++ (num r n).2.S ∧ (num r n).1 < 256 ^ n := by
  have h0 := num_from h
  unfold num at h ⊢
  rw [if_neg (by omega)] at h ⊢
  obtain ⟨q1, q2, q3⟩ := take_back h0 h
  rw [q3]
  simp only [Int.toNat_natCast]
  have hl : (r.S.take n).length = n := by rw [List.length_take]; omega
  have e4 := Wd.le_unle (r.S.take n)
  have e5 := Wd.unle_lt (r.S.take n)
  rw [hl] at e4 e5
  rw [e4]
  exact ⟨(List.take_append_drop _ _).symm, e5⟩
end
theorem pow1 : (256 : Nat) ^ 1 = 256 := by decide
theorem pow4 : (256 : Nat) ^ 4 = 4294967296 := by decide

/-! the encodings -/
def encR (x : Rl) : List UInt8 := Wd.le x.off.toNat 4 ++ (Wd.le x.kind.toNat 1 ++ (txt x.name ++ Wd.le x.add.toNat 4))
def encN (x : Nt) : List UInt8 := Wd.le x.kind.toNat 1 ++ (Wd.le x.n.toNat 4 ++ Wd.le x.m.toNat 4)
def encRs (l : List Rl) : List UInt8 := (l.map encR).flatten
def encNs (l : List Nt) : List UInt8 := (l.map encN).flatten
def encS (s : Sy) : List UInt8 :=
  txt s.name ++ (Wd.le s.bind.toNat 1 ++ (Wd.le s.kind.toNat 1 ++ (Wd.le s.size.toNat 4 ++ (txt s.bytes ++ (Wd.le s.rels.length 2 ++ (encRs s.rels ++ (Wd.le s.notes.length 1 ++ encNs s.notes)))))))
def encSs (l : List Sy) : List UInt8 := (l.map encS).flatten
def magic : List UInt8 := [65, 79, 66, 49]
def encO (o : Ob) : List UInt8 := magic ++ (txt o.name ++ (Wd.le o.syms.length 2 ++ encSs o.syms))

/-! what a number of theirs may be for its bytes -/
def inR (x : Rl) : Prop := (0 ≤ x.off ∧ x.off < 4294967296) ∧ (0 ≤ x.kind ∧ x.kind < 256) ∧ x.name.length ≤ 65535 ∧ (0 ≤ x.add ∧ x.add < 4294967296)
def inN (x : Nt) : Prop := (0 ≤ x.kind ∧ x.kind < 256) ∧ (0 ≤ x.n ∧ x.n < 4294967296) ∧ (0 ≤ x.m ∧ x.m < 4294967296)
def inS (s : Sy) : Prop := s.name.length ≤ 65535 ∧ (0 ≤ s.bind ∧ s.bind < 256) ∧ (0 ≤ s.kind ∧ s.kind < 256) ∧ (0 ≤ s.size ∧ s.size < 4294967296) ∧ s.bytes.length ≤ 65535 ∧ s.rels.length < 65536 ∧ (∀ x ∈ s.rels, inR x) ∧ s.notes.length < 256 ∧ ∀ x ∈ s.notes, inN x
def inO (o : Ob) : Prop := o.name.length ≤ 65535 ∧ o.syms.length < 65536 ∧ ∀ s ∈ o.syms, inS s

/-! the readers -/
def rdR (r : Rd) : Rl × Rd :=
  let a := num r 4
  let b := num a.2 1
  let c := text b.2
  let d := num c.2 4
  (⟨(a.1 : Int), (b.1 : Int), c.1, (d.1 : Int)⟩, d.2)
def rdN (r : Rd) : Nt × Rd :=
  let a := num r 1
  let b := num a.2 4
  let c := num b.2 4
  (⟨(a.1 : Int), (b.1 : Int), (c.1 : Int)⟩, c.2)
/-- So many of them; the first error ends it. -/
def many {α : Type} (f : Rd → α × Rd) : Nat → Rd → List α × Rd
  | 0, r => ([], r)
  | n + 1, r => if r.E ≠ 0 then ([], r) else ((f r).1 :: (many f n (f r).2).1, (many f n (f r).2).2)
def rdS (r : Rd) : Sy × Rd :=
  let a := text r
  let b := num a.2 1
  let c := num b.2 1
  let d := num c.2 4
  let e := text d.2
  let f := num e.2 2
  let g := many rdR f.1 f.2
  let h := num g.2 1
  let i := many rdN h.1 h.2
  (⟨a.1, (b.1 : Int), (c.1 : Int), (d.1 : Int), e.1, g.1, i.1⟩, i.2)
def rdO (r : Rd) : (List UInt8 × Ob) × Rd :=
  let m := take r 4
  let a := text m.2
  let n := num a.2 2
  let s := many rdS n.1 n.2
  ((m.1, ⟨a.1, s.1⟩), s.2)

theorem nat_int {x : Int} (h : 0 ≤ x) : ((x.toNat : Nat) : Int) = x := Int.toNat_of_nonneg h
/-! what was written is read -/
theorem rdR_enc {x : Rl} (h : inR x) (more : List UInt8) : rdR ⟨encR x ++ more, 0⟩ = (x, ⟨more, 0⟩) := by
  obtain ⟨⟨h1, h2⟩, ⟨h3, h4⟩, h5, ⟨h6, h7⟩⟩ := h
  have e1 := num_put x.off.toNat 4 (by decide) (by decide) (by rw [pow4]; omega)
  have e2 := num_put x.kind.toNat 1 (by decide) (by decide) (by rw [pow1]; omega)
  have e3 := fun more => text_txt x.name more h5
  have e4 := num_put x.add.toNat 4 (by decide) (by decide) (by rw [pow4]; omega)
  unfold rdR encR
  simp only [List.append_assoc]
  simp only [show ((4 : Nat) : Int) = 4 from rfl, show ((1 : Nat) : Int) = 1 from rfl] at e1 e2 e4
  rw [e1, e2, e3, e4]
  simp only [nat_int h1, nat_int h3, nat_int h6]
theorem rdN_enc {x : Nt} (h : inN x) (more : List UInt8) : rdN ⟨encN x ++ more, 0⟩ = (x, ⟨more, 0⟩) := by
  obtain ⟨⟨h1, h2⟩, ⟨h3, h4⟩, ⟨h6, h7⟩⟩ := h
  have e1 := num_put x.kind.toNat 1 (by decide) (by decide) (by rw [pow1]; omega)
  have e2 := num_put x.n.toNat 4 (by decide) (by decide) (by rw [pow4]; omega)
  have e4 := num_put x.m.toNat 4 (by decide) (by decide) (by rw [pow4]; omega)
  unfold rdN encN
  simp only [List.append_assoc]
  simp only [show ((4 : Nat) : Int) = 4 from rfl, show ((1 : Nat) : Int) = 1 from rfl] at e1 e2 e4
  rw [e1, e2, e4]
  simp only [nat_int h1, nat_int h3, nat_int h6]
theorem many_enc {α : Type} {f : Rd → α × Rd} {enc : α → List UInt8} {ok : α → Prop} (hf : ∀ x, ok x → ∀ more, f ⟨enc x ++ more, 0⟩ = (x, ⟨more, 0⟩)) :
    ∀ (l : List α), (∀ x ∈ l, ok x) → ∀ more, many f l.length ⟨(l.map enc).flatten ++ more, 0⟩ = (l, ⟨more, 0⟩)
  | [], _, more => rfl
  | x :: l, h, more => by
    have ih := many_enc hf l (fun y hy => h y (List.mem_cons_of_mem _ hy)) more
    rw [List.length_cons]
    unfold many
    rw [if_neg (fun h => h rfl)]
    have e : ((x :: l).map enc).flatten ++ more = enc x ++ ((l.map enc).flatten ++ more) := by simp
    rw [e, hf x (h x List.mem_cons_self)]
    simp only
    rw [ih]
theorem rdS_enc {s : Sy} (h : inS s) (more : List UInt8) : rdS ⟨encS s ++ more, 0⟩ = (s, ⟨more, 0⟩) := by
  obtain ⟨h1, ⟨h2, h3⟩, ⟨h4, h5⟩, ⟨h6, h7⟩, h8, h9, h10, h11, h12⟩ := h
  have e1 := fun more => text_txt s.name more h1
  have e2 := num_put s.bind.toNat 1 (by decide) (by decide) (by rw [pow1]; omega)
  have e3 := num_put s.kind.toNat 1 (by decide) (by decide) (by rw [pow1]; omega)
  have e4 := num_put s.size.toNat 4 (by decide) (by decide) (by rw [pow4]; omega)
  have e5 := fun more => text_txt s.bytes more h8
  have e6 := num_put s.rels.length 2 (by decide) (by decide) (by rw [pow2]; omega)
  have e7 := many_enc (f := rdR) (enc := encR) (ok := inR) (fun x hx more => rdR_enc hx more) s.rels h10
  have e8 := num_put s.notes.length 1 (by decide) (by decide) (by rw [pow1]; omega)
  have e9 := many_enc (f := rdN) (enc := encN) (ok := inN) (fun x hx more => rdN_enc hx more) s.notes h12
  unfold rdS encS encRs encNs
  simp only [List.append_assoc]
  simp only [show ((4 : Nat) : Int) = 4 from rfl, show ((1 : Nat) : Int) = 1 from rfl, show ((2 : Nat) : Int) = 2 from rfl] at e2 e3 e4 e6 e8
  rw [e1, e2, e3, e4, e5, e6, e7, e8, e9]
  simp only [nat_int h2, nat_int h4, nat_int h6]
theorem rdO_enc {o : Ob} (h : inO o) (more : List UInt8) : rdO ⟨encO o ++ more, 0⟩ = ((magic, o), ⟨more, 0⟩) := by
  obtain ⟨h1, h2, h3⟩ := h
  have e0 := fun more => take_all magic more
  have e1 := fun more => text_txt o.name more h1
  have e2 := num_put o.syms.length 2 (by decide) (by decide) (by rw [pow2]; omega)
  have e3 := many_enc (f := rdS) (enc := encS) (ok := inS) (fun x hx more => rdS_enc hx more) o.syms h3
  unfold rdO encO encSs
  simp only [List.append_assoc]
  simp only [show ((2 : Nat) : Int) = 2 from rfl, show (magic.length : Int) = 4 from rfl] at e0 e2
  rw [e0, e1, e2, e3]

/-! what was read was written so -/
theorem rdR_back {r : Rd} (h : (rdR r).2.E = 0) : r.E = 0 ∧ r.S = encR (rdR r).1 ++ (rdR r).2.S ∧ inR (rdR r).1 := by
  unfold rdR at h ⊢
  simp only at h ⊢
  have q3 := num_from h
  have q2 := text_from q3
  have q1 := num_from q2
  have q0 := num_from q1
  obtain ⟨a1, a2⟩ := num_back (r := r) 4 (by decide) (by decide) q1
  obtain ⟨b1, b2⟩ := num_back (r := (num r 4).2) 1 (by decide) (by decide) q2
  obtain ⟨c1, c2⟩ := text_back q2 q3
  obtain ⟨d1, d2⟩ := num_back 4 (by decide) (by decide) h
  rw [pow4] at a2 d2
  rw [pow1] at b2
  simp only [show ((4 : Nat) : Int) = 4 from rfl, show ((1 : Nat) : Int) = 1 from rfl] at a1 a2 b1 b2 d1 d2
  refine ⟨q0, ?_, ⟨by simp only; omega, by simp only; omega, c2, by simp only; omega⟩⟩
  unfold encR
  simp only [Int.toNat_natCast, List.append_assoc]
  rw [← d1, ← c1, ← b1, ← a1]
theorem rdN_back {r : Rd} (h : (rdN r).2.E = 0) : r.E = 0 ∧ r.S = encN (rdN r).1 ++ (rdN r).2.S ∧ inN (rdN r).1 := by
  unfold rdN at h ⊢
  simp only at h ⊢
  have q2 := num_from h
  have q1 := num_from q2
  have q0 := num_from q1
  obtain ⟨a1, a2⟩ := num_back (r := r) 1 (by decide) (by decide) q1
  obtain ⟨b1, b2⟩ := num_back (r := (num r 1).2) 4 (by decide) (by decide) q2
  obtain ⟨d1, d2⟩ := num_back 4 (by decide) (by decide) h
  rw [pow4] at b2 d2
  rw [pow1] at a2
  simp only [show ((4 : Nat) : Int) = 4 from rfl, show ((1 : Nat) : Int) = 1 from rfl] at a1 a2 b1 b2 d1 d2
  refine ⟨q0, ?_, ⟨by simp only; omega, by simp only; omega, by simp only; omega⟩⟩
  unfold encN
  simp only [Int.toNat_natCast, List.append_assoc]
  rw [← d1, ← b1, ← a1]
theorem many_stuck {α : Type} {f : Rd → α × Rd} {r : Rd} (h : r.E ≠ 0) : ∀ n, many f n r = ([], r)
  | 0 => rfl
  | n + 1 => by unfold many; rw [if_pos h]
theorem many_back {α : Type} {f : Rd → α × Rd} {enc : α → List UInt8} {ok : α → Prop} (hf : ∀ r, (f r).2.E = 0 → r.E = 0 ∧ r.S = enc (f r).1 ++ (f r).2.S ∧ ok (f r).1) :
    ∀ (n : Nat) (r : Rd), (many f n r).2.E = 0 → r.E = 0 ∧ r.S = ((many f n r).1.map enc).flatten ++ (many f n r).2.S ∧ (many f n r).1.length = n ∧ ∀ x ∈ (many f n r).1, ok x
  | 0, r, h => ⟨h, rfl, rfl, by intro x hx; cases hx⟩
  | n + 1, r, h => by
    unfold many at h ⊢
    by_cases h0 : r.E ≠ 0
    · rw [if_pos h0] at h; exact absurd h h0
    · rw [if_neg h0] at h ⊢
      simp only at h ⊢
      obtain ⟨q1, q2, q3, q4⟩ := many_back hf n (f r).2 h
      obtain ⟨p1, p2, p3⟩ := hf r q1
      refine ⟨p1, ?_, by rw [List.length_cons, q3], fun x hx => ?_⟩
      · rw [List.map_cons, List.flatten_cons, List.append_assoc, ← q2]
        exact p2
      · rcases List.mem_cons.1 hx with rfl | hx
        · exact p3
        · exact q4 x hx
theorem rdS_back {r : Rd} (h : (rdS r).2.E = 0) : r.E = 0 ∧ r.S = encS (rdS r).1 ++ (rdS r).2.S ∧ inS (rdS r).1 := by
  unfold rdS at h ⊢
  simp only at h ⊢
  obtain ⟨q8, i1, i2, i3⟩ := many_back (f := rdN) (enc := encN) (ok := inN) (fun r hr => rdN_back hr) _ _ h
  have q7 := num_from q8
  obtain ⟨q6, g1, g2, g3⟩ := many_back (f := rdR) (enc := encR) (ok := inR) (fun r hr => rdR_back hr) _ _ q7
  have q5 := num_from q6
  have q4 := text_from q5
  have q3 := num_from q4
  have q2 := num_from q3
  have q1 := num_from q2
  have q0 := text_from q1
  obtain ⟨a1, a2⟩ := text_back q0 q1
  obtain ⟨b1, b2⟩ := num_back (r := (text r).2) 1 (by decide) (by decide) q2
  obtain ⟨c1, c2⟩ := num_back (r := (num (text r).2 1).2) 1 (by decide) (by decide) q3
  obtain ⟨d1, d2⟩ := num_back (r := (num (num (text r).2 1).2 1).2) 4 (by decide) (by decide) q4
  obtain ⟨e1, e2⟩ := text_back q4 q5
  obtain ⟨f1, f2⟩ := num_back 2 (by decide) (by decide) q6
  obtain ⟨h1, h2⟩ := num_back 1 (by decide) (by decide) q8
  rw [pow1] at b2 c2 h2
  rw [pow4] at d2
  rw [pow2] at f2
  simp only [show ((4 : Nat) : Int) = 4 from rfl, show ((1 : Nat) : Int) = 1 from rfl, show ((2 : Nat) : Int) = 2 from rfl] at b1 b2 c1 c2 d1 d2 f1 f2 h1 h2
  refine ⟨q0, ?_, ⟨a2, by simp only; omega, by simp only; omega, by simp only; omega, e2, by simp only; rw [g2]; exact f2, g3, by simp only; rw [i2]; exact h2, i3⟩⟩
  unfold encS encRs encNs
  simp only [Int.toNat_natCast, List.append_assoc]
  rw [g2, i2, ← i1, ← h1, ← g1, ← f1, ← e1, ← d1, ← c1, ← b1, ← a1]
theorem rdO_back {r : Rd} (h : (rdO r).2.E = 0) (hm : (rdO r).1.1 = magic) : r.E = 0 ∧ r.S = encO (rdO r).1.2 ++ (rdO r).2.S ∧ inO (rdO r).1.2 := by
  unfold rdO at h hm ⊢
  simp only at h hm ⊢
  obtain ⟨q2, g1, g2, g3⟩ := many_back (f := rdS) (enc := encS) (ok := inS) (fun r hr => rdS_back hr) _ _ h
  have q1 := num_from q2
  have q0 := text_from q1
  have qr : r.E = 0 := by
    apply Decidable.byContradiction
    intro h0
    unfold take at q0
    rw [if_pos h0] at q0
    exact h0 q0
  obtain ⟨t1, t2, t3⟩ := take_back qr q0
  obtain ⟨a1, a2⟩ := text_back q0 q1
  obtain ⟨f1, f2⟩ := num_back 2 (by decide) (by decide) q2
  rw [pow2] at f2
  simp only [show ((2 : Nat) : Int) = 2 from rfl] at f1 f2
  have tS : r.S = (take r 4).1 ++ (take r 4).2.S := by rw [t3]; exact (List.take_append_drop _ _).symm
  refine ⟨qr, ?_, ⟨a2, by simp only; rw [g2]; exact f2, g3⟩⟩
  unfold encO encSs
  simp only [List.append_assoc]
  rw [g2, ← g1, ← f1, ← a1, ← hm]
  exact tS

/-! which object bytes are -/
/-- The document's reading. -/
def getO (s : List UInt8) : Option Ob :=
  if (fin (rdO ⟨s, 0⟩).2).E = 0 ∧ (rdO ⟨s, 0⟩).1.1 = magic ∧ obOk (rdO ⟨s, 0⟩).1.2 = true then some (rdO ⟨s, 0⟩).1.2 else none
theorem getO_some {s : List UInt8} {o : Ob} (h : getO s = some o) : obOk o = true ∧ encO o = s ∧ inO o := by
  unfold getO at h
  by_cases hc : (fin (rdO ⟨s, 0⟩).2).E = 0 ∧ (rdO ⟨s, 0⟩).1.1 = magic ∧ obOk (rdO ⟨s, 0⟩).1.2 = true
  · rw [if_pos hc] at h
    injection h with h
    subst h
    obtain ⟨h1, h2, h3⟩ := hc
    have hE : (rdO ⟨s, 0⟩).2.E = 0 ∧ (rdO ⟨s, 0⟩).2.S = [] := by
      unfold fin at h1
      by_cases hE : (rdO ⟨s, 0⟩).2.E ≠ 0
      · rw [if_pos hE] at h1; exact absurd h1 hE
      · rw [if_neg hE] at h1
        by_cases hS : (rdO ⟨s, 0⟩).2.S ≠ []
        · rw [if_pos hS] at h1; exact absurd h1 (show ¬ ((7 : Int) = 0) by decide)
        · exact ⟨Decidable.not_not.1 hE, Decidable.not_not.1 hS⟩
    obtain ⟨_, q2, q3⟩ := rdO_back hE.1 h2
    rw [hE.2, List.append_nil] at q2
    exact ⟨h3, q2.symm, q3⟩
  · rw [if_neg hc] at h; cases h
theorem getO_enc {o : Ob} (h : inO o) (hv : obOk o = true) : getO (encO o) = some o := by
  have e := rdO_enc h []
  rw [List.append_nil] at e
  unfold getO
  rw [e]
  rw [if_pos ⟨rfl, rfl, hv⟩]
/-- No two objects have the same bytes. -/
theorem enc_inj {o p : Ob} (ho : inO o) (hp : inO p) (vo : obOk o = true) (vp : obOk p = true) (h : encO o = encO p) : o = p := by
  have e1 := getO_enc ho vo
  have e2 := getO_enc hp vp
  rw [h, e2] at e1
  injection e1 with e1
  exact e1.symm
end Go.Proofs.Ytbpdoiikleaidaa.Of
end

/- The document's num, text, one, word (package aediculeref09). -/
section
set_option linter.unusedVariables false
set_option linter.unusedSimpArgs false
namespace Go.Proofs.Ytbpdoiikleaidaa
open Go Go.RowKit Pk Of

set_option maxHeartbeats 1000000 in
set_option maxRecDepth 100000 in
theorem dnum_any (x : Int) (n : Nat) (h0 : 0 ≤ x) (h1 : x < 4294967296) (hn1 : 1 ≤ n) (hn4 : n ≤ 4) (hx : x.toNat < 256 ^ n) (w : World) :
    Calls Try.prog 23 #[.int .u32 x, .int .i64 (n : Int)] w fun e w' => e = .returned (.string (tx (Wd.le x.toNat n))) ∧ Below w.heap.size w w' := by
  have HN := Lib.hid (rnum_any x (n : Int) h0 h1 w)
  have e1 : numE x (n : Int) = 0 := by
    unfold numE Wd.putE
    rw [if_neg (by omega), if_neg]
    simp only [Int.toNat_natCast]
    omega
  have e2 : numS x (n : Int) = tx (Wd.le x.toNat n) := by
    have : Wd.putE x.toNat (n : Int) = 0 := e1
    unfold numS Wd.putL
    rw [this, if_pos rfl]
    simp
  rw [e1, e2] at HN
  clear e1 e2 hx h0 h1 hn1 hn4
  go_enter Try.func23, Try.ntmps23
  go_wp2_with fail
  refine HN.out.mono ?_; rintro e w1 ⟨rfl, q⟩
  have HQ := Lib.hid q
  clear q
  go_wp2_with fail
  go_ret
  exact ⟨rfl, HQ.out⟩
theorem dnum1 (x : Int) (h0 : 0 ≤ x) (h1 : x < 256) (w : World) : Calls Try.prog 23 #[.int .u32 x, .int .i64 1] w fun e w' => e = .returned (.string (tx (Wd.le x.toNat 1))) ∧ Below w.heap.size w w' := dnum_any x 1 h0 (by omega) (by decide) (by decide) (by rw [pow1]; omega) w
theorem dnum2 (x : Int) (h0 : 0 ≤ x) (h1 : x < 65536) (w : World) : Calls Try.prog 23 #[.int .u32 x, .int .i64 2] w fun e w' => e = .returned (.string (tx (Wd.le x.toNat 2))) ∧ Below w.heap.size w w' := dnum_any x 2 h0 (by omega) (by decide) (by decide) (by rw [pow2]; omega) w
theorem dnum4 (x : Int) (h0 : 0 ≤ x) (h1 : x < 4294967296) (w : World) : Calls Try.prog 23 #[.int .u32 x, .int .i64 4] w fun e w' => e = .returned (.string (tx (Wd.le x.toNat 4))) ∧ Below w.heap.size w w' := dnum_any x 4 h0 h1 (by decide) (by decide) (by rw [pow4]; omega) w
set_option maxHeartbeats 1000000 in
set_option maxRecDepth 100000 in
theorem dtext_any (s : ByteArray) (hs : s.size ≤ 65535) (w : World) :
    Calls Try.prog 22 #[.string s] w fun e w' => e = .returned (.string (tx (txt (by' s)))) ∧ Below w.heap.size w w' := by
  have HN := Lib.hid (rtext_any s (by omega) w)
  have e1 : txtE (by' s) = 0 := by unfold txtE; rw [if_neg (by rw [by_length]; omega)]
  have e2 : txtS s = tx (txt (by' s)) := by unfold txtS; rw [e1, if_pos rfl]
  rw [e1, e2] at HN
  clear e1 e2 hs
  go_enter Try.func22, Try.ntmps22
  go_wp2_with fail
  refine HN.out.mono ?_; rintro e w1 ⟨rfl, q⟩
  have HQ := Lib.hid q
  clear q
  go_wp2_with fail
  go_ret
  exact ⟨rfl, HQ.out⟩
section
variable {g : Nat} {r : Rd}
set_option maxHeartbeats 1000000 in
set_option maxRecDepth 100000 in
theorem done_any (n : Int) (w : World) (h : RdAt w g r) (hS : r.S.length ≤ 140737488355328) :
    Calls Try.prog 30 #[.pointer (some ⟨g, 0, none⟩), .int .i64 n] w fun e w' => e = .returned (.int .u32 ((num r n).1 : Nat)) ∧ RdAt w' g (num r n).2 ∧ w.grownBy w' (some g) := by
  have HN := Lib.hid (rdnum_any n w h hS)
  obtain ⟨N, hN⟩ : ∃ N, N = (num r n).1 := ⟨_, rfl⟩
  obtain ⟨r2, hr2⟩ : ∃ r2, r2 = (num r n).2 := ⟨_, rfl⟩
  rw [← hN, ← hr2] at HN
  rw [← hN, ← hr2]
  clear hN hr2 h hS
  go_enter Try.func30, Try.ntmps30
  go_wp2_with fail
  refine HN.out.mono ?_; rintro e w1 ⟨rfl, q⟩
  have HQ := Lib.hid q
  clear q
  go_wp2_with fail
  go_ret
  exact ⟨rfl, HQ.out⟩
set_option maxHeartbeats 1000000 in
set_option maxRecDepth 100000 in
theorem dword_any (w : World) (h : RdAt w g r) (hS : r.S.length ≤ 140737488355328) :
    Calls Try.prog 29 #[.pointer (some ⟨g, 0, none⟩)] w fun e w' => e = .returned (.string (tx (text r).1)) ∧ RdAt w' g (text r).2 ∧ w.grownBy w' (some g) := by
  have HN := Lib.hid (rdtext_any w h hS)
  obtain ⟨N, hN⟩ : ∃ N, N = tx (text r).1 := ⟨_, rfl⟩
  obtain ⟨r2, hr2⟩ : ∃ r2, r2 = (text r).2 := ⟨_, rfl⟩
  rw [← hN, ← hr2] at HN
  rw [← hN, ← hr2]
  clear hN hr2 h hS
  go_enter Try.func29, Try.ntmps29
  go_wp2_with fail
  refine HN.out.mono ?_; rintro e w1 ⟨rfl, q⟩
  have HQ := Lib.hid q
  clear q
  go_wp2_with fail
  go_ret
  exact ⟨rfl, HQ.out⟩
end
end Go.Proofs.Ytbpdoiikleaidaa
end
