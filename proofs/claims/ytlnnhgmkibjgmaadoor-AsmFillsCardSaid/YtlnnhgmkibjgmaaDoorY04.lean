/- A symbol of lines, laid at an address and filled: plain mathematics. -/
import Derived.Test.YtlnnhgmkibjgmaaDoorX02
set_option linter.unusedVariables false
namespace Go.Proofs.YtlnnhgmkibjgmaaDoor.Al
open Oj
open I (Wd.le)

/-- Four bytes written over. -/
def put4 (b : List UInt8) (off v : Nat) : List UInt8 := b.take off ++ (I.Wd.le v 4 ++ b.drop (off + 4))
/-- What a place is filled with: the symbol's own address, or the others'. -/
def at4 (self : List UInt8) (own other : Int) (x : Rl) : Int := ((if x.name = self then own else other) + x.add) % 4294967296
def fillR (self : List UInt8) (own other : Int) (b : List UInt8) (x : Rl) : List UInt8 := put4 b x.off.toNat (at4 self own other x).toNat
/-- A line's number, filled. -/
def wantI (self : List UInt8) (own other : Int) (l : List Ln) (x : Ln) : Int :=
  if x.name ≠ [] then ((if x.name = self then own else other) + x.im) % 4294967296
  else if x.to ≠ [] then (own + 8 * (((findL l x.to).getD 0 : Nat) : Int)) % 4294967296
  else x.im
def wantB (self : List UInt8) (own other : Int) (l : List Ln) (x : Ln) : List UInt8 := I.Ix.bytes x.op x.d x.a x.b (wantI self own other l x)
theorem put4_mid (A h t C : List UInt8) (v n : Nat) (hA : A.length = n) (hh : h.length = 4) (ht : t.length = 4) : put4 (A ++ ((h ++ t) ++ C)) (n + 4) v = A ++ ((h ++ I.Wd.le v 4) ++ C) := by
  unfold put4
  have e1 : (A ++ ((h ++ t) ++ C)).take (n + 4) = A ++ h := by
    have : A ++ ((h ++ t) ++ C) = (A ++ h) ++ (t ++ C) := by simp
    rw [this, List.take_append_of_le_length (by rw [List.length_append]; omega), List.take_of_length_le (by rw [List.length_append]; omega)]
  have e2 : (A ++ ((h ++ t) ++ C)).drop (n + 4 + 4) = C := by
    have : A ++ ((h ++ t) ++ C) = ((A ++ h) ++ t) ++ C := by simp
    rw [this, List.drop_append_of_le_length (by simp only [List.length_append]; omega), List.drop_of_length_le (by simp only [List.length_append]; omega)]
    rfl
  rw [e1, e2]
  simp
theorem bytes_split (op d a b im : Int) : ∃ h : List UInt8, h.length = 4 ∧ ∀ v, I.Ix.bytes op d a b v = h ++ I.Wd.le v.toNat 4 :=
  ⟨_, rfl, fun v => rfl⟩
theorem flat8 {f : Ln → List UInt8} (hf : ∀ x, (f x).length = 8) : ∀ l : List Ln, (l.map f).flatten.length = 8 * l.length
  | [] => rfl
  | x :: l => by
    rw [List.map_cons, List.flatten_cons, List.length_append, hf x, flat8 hf l, List.length_cons]
    omega
theorem both_not {x : Ln} (h : lnOk x = true) : ¬ (x.to ≠ [] ∧ x.name ≠ []) := by
  intro hh
  unfold lnOk at h
  rw [decide_eq_true hh.1, decide_eq_true hh.2] at h
  simp at h
theorem fill_step (self : List UInt8) (own other : Int) (l : List Ln) (k : Nat) (hk : k < l.length) (hok : lnOk (l.getD k Ln.nought) = true) (A C : List UInt8) (hA : A.length = 8 * k) :
    (relsAt self l k).foldl (fillR self own other) (A ++ (lineB (l.getD k Ln.nought) ++ C)) = A ++ (wantB self own other l (l.getD k Ln.nought) ++ C) := by
  obtain ⟨x, hx⟩ : ∃ x, x = l.getD k Ln.nought := ⟨_, rfl⟩
  have hb := both_not hok
  unfold relsAt
  rw [← hx] at hb ⊢
  obtain ⟨h4, hl4, hB⟩ := bytes_split x.op x.d x.a x.b 0
  have hoff : (8 * (k : Int) + 4).toNat = 8 * k + 4 := by omega
  by_cases hn : x.name = []
  · by_cases ht : x.to = []
    · rw [if_neg (by simp [hn]), if_neg (by simp [ht])]
      have e : wantB self own other l x = lineB x := by
        unfold wantB wantI lineB im0 adr
        simp [hn, ht]
      rw [e]
      rfl
    · rw [if_neg (by simp [hn]), if_pos ht]
      simp only [List.nil_append, List.foldl_cons, List.foldl_nil]
      unfold fillR at4 wantB wantI lineB
      simp only [hn, ht, ne_eq, not_true_eq_false, not_false_eq_true, if_true, if_false]
      rw [hB, hB, hoff]
      exact put4_mid A h4 _ C _ _ hA hl4 (I.Wd.le_length _ _)
  · have ht : x.to = [] := by
      by_cases h : x.to = []
      · exact h
      · exact absurd ⟨h, hn⟩ hb
    rw [if_pos hn, if_neg (by simp [ht])]
    simp only [List.append_nil, List.foldl_cons, List.foldl_nil]
    unfold fillR at4 wantB wantI lineB
    simp only [hn, ne_eq, not_false_eq_true, if_true]
    rw [hB, hB, hoff]
    exact put4_mid A h4 _ C _ _ hA hl4 (I.Wd.le_length _ _)
theorem wantB_length (self : List UInt8) (own other : Int) (l : List Ln) (x : Ln) : (wantB self own other l x).length = 8 := I.Ix.bytes_length _ _ _ _ _
theorem drop_cons8 (l : List Ln) (k : Nat) (hk : k < l.length) : l.drop k = l.getD k Ln.nought :: l.drop (k + 1) := by
  rw [List.drop_eq_getElem_cons hk, List.getD_eq_getElem?_getD, List.getElem?_eq_getElem hk]
  rfl
theorem take_snoc8 (l : List Ln) (k : Nat) (h : k < l.length) : l.take (k + 1) = l.take k ++ [l.getD k Ln.nought] := by
  rw [List.take_succ_eq_append_getElem h, List.getD_eq_getElem?_getD, List.getElem?_eq_getElem h]; rfl
theorem fill_pre (self : List UInt8) (own other : Int) (l : List Ln) (hok : ∀ k, k < l.length → lnOk (l.getD k Ln.nought) = true) : ∀ k, k ≤ l.length →
    (relsL self l k).foldl (fillR self own other) (bytesL l) = ((l.take k).map (wantB self own other l)).flatten ++ bytesL (l.drop k)
  | 0, _ => by simp [relsL]
  | k + 1, hk => by
    have ih := fill_pre self own other l hok k (by omega)
    rw [relsL, List.foldl_append, ih]
    have hA : ((l.take k).map (wantB self own other l)).flatten.length = 8 * k := by
      rw [flat8 (wantB_length self own other l), List.length_take]
      omega
    have e : bytesL (l.drop k) = lineB (l.getD k Ln.nought) ++ bytesL (l.drop (k + 1)) := by
      rw [drop_cons8 l k (by omega)]
      simp [bytesL]
    rw [e, fill_step self own other l k (by omega) (hok k (by omega)) _ _ hA, take_snoc8 l k (by omega)]
    simp
/-- Filled, each line's bytes are those of its instruction with its number. -/
theorem fill_all (self : List UInt8) (own other : Int) (l : List Ln) (hok : ∀ k, k < l.length → lnOk (l.getD k Ln.nought) = true) :
    (relsL self l l.length).foldl (fillR self own other) (bytesL l) = (l.map (wantB self own other l)).flatten := by
  rw [fill_pre self own other l hok l.length (Nat.le_refl _), List.take_length, List.drop_length]
  simp [bytesL]
end Go.Proofs.YtlnnhgmkibjgmaaDoor.Al
