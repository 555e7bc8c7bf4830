/- Texts and lists as bytes, and a reader of bytes, as plain functions on lists. -/
import Derived.Test.YtijfdnaolgbpmaaWN
namespace Go.Proofs.Ytijfdnaolgbpmaa.Pk

def txt (s : List UInt8) : List UInt8 := Wd.le s.length 2 ++ s
def txtE (s : List UInt8) : Int := if 65535 < s.length then 5 else 0
def okAll (l : List (List UInt8)) : Bool := l.all fun s => decide (s.length ≤ 65535)
def lstE (l : List (List UInt8)) : Int := if 4096 < l.length then 5 else if okAll l = true then 0 else 5
def cat (l : List (List UInt8)) : List UInt8 := (l.map txt).flatten
def lst (l : List (List UInt8)) : List UInt8 := Wd.le l.length 2 ++ cat l

/-- A reader: the bytes that are left, the fault. -/
structure Rd where
  S : List UInt8
  E : Int
def take (r : Rd) (n : Int) : List UInt8 × Rd :=
  if r.E ≠ 0 then ([], r) else if n < 0 then ([], ⟨r.S, 2⟩) else if (r.S.length : Int) < n then ([], ⟨r.S, 6⟩) else (r.S.take n.toNat, ⟨r.S.drop n.toNat, 0⟩)
def num (r : Rd) (n : Int) : Nat × Rd := if r.E = 0 ∧ (n < 1 ∨ 4 < n) then (0, ⟨r.S, 2⟩) else (Wd.unle (take r n).1, (take r n).2)
def text (r : Rd) : List UInt8 × Rd :=
  if (num r 2).2.E ≠ 0 then ([], (num r 2).2)
  else if (take (num r 2).2 (num r 2).1).2.E ≠ 0 then ([], ⟨r.S, (take (num r 2).2 (num r 2).1).2.E⟩) else take (num r 2).2 (num r 2).1
/-- So many texts; the first fault ends it. -/
def textsN : Nat → Rd → List (List UInt8) × Rd
  | 0, r => ([], r)
  | n + 1, r => if (text r).2.E ≠ 0 then ([], (text r).2) else ((text r).1 :: (textsN n (text r).2).1, (textsN n (text r).2).2)
def texts (r : Rd) : List (List UInt8) × Rd :=
  if (num r 2).2.E ≠ 0 then ([], (num r 2).2)
  else if 4096 < (num r 2).1 then ([], ⟨r.S, 7⟩)
  else if (textsN (num r 2).1 (num r 2).2).2.E ≠ 0 then ([], ⟨r.S, (textsN (num r 2).1 (num r 2).2).2.E⟩) else textsN (num r 2).1 (num r 2).2
def fin (r : Rd) : Rd := if r.E ≠ 0 then r else if r.S ≠ [] then ⟨r.S, 7⟩ else r

/-! what was packed is read -/
theorem take_all (a b : List UInt8) : take ⟨a ++ b, 0⟩ (a.length : Int) = (a, ⟨b, 0⟩) := by
  unfold take
  rw [if_neg (by simp), if_neg (by omega), if_neg (by simp; omega)]
  simp
theorem num_put (v n : Nat) (h1 : 1 ≤ n) (h4 : n ≤ 4) (hv : v < 256 ^ n) (more : List UInt8) : num ⟨Wd.le v n ++ more, 0⟩ (n : Int) = (v, ⟨more, 0⟩) := by
  have h := take_all (Wd.le v n) more
  rw [Wd.le_length] at h
  unfold num
  rw [if_neg (by omega), h, Wd.unle_le, Nat.mod_eq_of_lt hv]
theorem pow2 : (256 : Nat) ^ 2 = 65536 := by decide
theorem num2 (v : Nat) (hv : v < 65536) (more : List UInt8) : num ⟨Wd.le v 2 ++ more, 0⟩ 2 = (v, ⟨more, 0⟩) := num_put v 2 (by decide) (by decide) (by rw [pow2]; exact hv) more
theorem text_txt (s more : List UInt8) (hs : s.length ≤ 65535) : text ⟨txt s ++ more, 0⟩ = (s, ⟨more, 0⟩) := by
  have h := num2 s.length (by omega) (s ++ more)
  unfold text
  rw [show txt s ++ more = Wd.le s.length 2 ++ (s ++ more) by simp [txt], h]
  simp only [take_all]
  simp
theorem textsN_cat (l : List (List UInt8)) (more : List UInt8) (h : okAll l = true) : textsN l.length ⟨cat l ++ more, 0⟩ = (l, ⟨more, 0⟩) := by
  induction l with
  | nil => rfl
  | cons s l ih =>
    unfold okAll at h
    rw [List.all_cons, Bool.and_eq_true, decide_eq_true_eq] at h
    have e : cat (s :: l) ++ more = txt s ++ (cat l ++ more) := by simp [cat]
    have ht := text_txt s (cat l ++ more) h.1
    rw [List.length_cons, textsN, e, ht, ih h.2]
    simp
theorem lstE_ok {l : List (List UInt8)} (h : lstE l = 0) : l.length ≤ 4096 ∧ okAll l = true := by
  unfold lstE at h
  split at h
  · cases h
  · split at h
    · rename_i h1 h2; exact ⟨by omega, h2⟩
    · cases h
theorem lstE_two (l : List (List UInt8)) : lstE l = 0 ∨ lstE l = 5 := by unfold lstE; split; exact .inr rfl; split <;> simp
theorem texts_lst (l : List (List UInt8)) (more : List UInt8) (h : lstE l = 0) : texts ⟨lst l ++ more, 0⟩ = (l, ⟨more, 0⟩) := by
  obtain ⟨h1, h2⟩ := lstE_ok h
  have hn := num2 l.length (by omega) (cat l ++ more)
  have ht := textsN_cat l more h2
  unfold texts
  rw [show lst l ++ more = Wd.le l.length 2 ++ (cat l ++ more) by simp [lst], hn]
  simp only [ht]
  rw [if_neg (by simp), if_neg (by omega), if_neg (by simp)]

/-! of what is read the bytes are those that it was read of -/
theorem take_back {r : Rd} {n : Int} (h0 : r.E = 0) (h : (take r n).2.E = 0) : 0 ≤ n ∧ n ≤ r.S.length ∧ take r n = (r.S.take n.toNat, ⟨r.S.drop n.toNat, 0⟩) := by
  unfold take at h ⊢
  rw [if_neg (by simp [h0])] at h ⊢
  by_cases h1 : n < 0
  · rw [if_pos h1] at h; cases h
  · rw [if_neg h1] at h ⊢
    by_cases h2 : (r.S.length : Int) < n
    · rw [if_pos h2] at h; cases h
    · rw [if_neg h2]; exact ⟨by omega, by omega, rfl⟩
theorem take_fault {r : Rd} {n : Int} (h : (take r n).2.E ≠ 0) : (take r n).1 = [] ∧ (take r n).2.S = r.S := by
  unfold take at h ⊢
  split
  · exact ⟨rfl, rfl⟩
  · split
    · exact ⟨rfl, rfl⟩
    · split
      · exact ⟨rfl, rfl⟩
      · rename_i h1 h2 h3
        rw [if_neg h1, if_neg h2, if_neg h3] at h
        exact absurd rfl h
theorem num_fault {r : Rd} {n : Int} (h : (num r n).2.E ≠ 0) : (num r n).1 = 0 ∧ (num r n).2.S = r.S := by
  unfold num at h ⊢
  split
  · exact ⟨rfl, rfl⟩
  · rename_i h1
    rw [if_neg h1] at h
    obtain ⟨q1, q2⟩ := take_fault h
    exact ⟨by simp only; rw [q1]; rfl, q2⟩
theorem num2_back {r : Rd} (h0 : r.E = 0) (h : (num r 2).2.E = 0) : r.S = Wd.le (num r 2).1 2 ++ (num r 2).2.S ∧ (num r 2).1 < 65536 := by
  unfold num at h ⊢
  rw [if_neg (by omega)] at h ⊢
  obtain ⟨h1, h2, h3⟩ := take_back h0 h
  rw [h3]
  simp only
  have hl : (r.S.take (2 : Int).toNat).length = 2 := by rw [List.length_take]; show min 2 _ = 2; omega
  have h4 := Wd.le_unle (r.S.take (2 : Int).toNat)
  have h5 := Wd.unle_lt (r.S.take (2 : Int).toNat)
  rw [hl] at h4 h5
  rw [h4]
  exact ⟨(List.take_append_drop _ _).symm, by rw [pow2] at h5; exact h5⟩
theorem text_back {r : Rd} (h0 : r.E = 0) (h : (text r).2.E = 0) : r.S = txt (text r).1 ++ (text r).2.S ∧ (text r).1.length ≤ 65535 := by
  unfold text at h ⊢
  by_cases h1 : (num r 2).2.E = 0
  · rw [if_neg (by simp [h1])] at h ⊢
    by_cases h2 : (take (num r 2).2 (num r 2).1).2.E = 0
    · rw [if_neg (by simp [h2])]
      obtain ⟨e1, e2⟩ := num2_back h0 h1
      obtain ⟨q1, q2, q3⟩ := take_back h1 h2
      rw [q3]
      simp only [Int.toNat_natCast]
      have hl : ((num r 2).2.S.take (num r 2).1).length = (num r 2).1 := by rw [List.length_take]; omega
      refine ⟨?_, by rw [hl]; omega⟩
      unfold txt
      rw [hl, List.append_assoc, List.take_append_drop]
      exact e1
    · rw [if_pos h2] at h; exact absurd h h2
  · rw [if_pos h1] at h; exact absurd h h1
theorem textsN_back (n : Nat) : ∀ {r : Rd}, r.E = 0 → (textsN n r).2.E = 0 → r.S = cat (textsN n r).1 ++ (textsN n r).2.S ∧ okAll (textsN n r).1 = true ∧ (textsN n r).1.length = n := by
  induction n with
  | zero => intro r _ _; exact ⟨rfl, rfl, rfl⟩
  | succ n ih =>
    intro r h0 h
    rw [textsN] at h ⊢
    by_cases h1 : (text r).2.E = 0
    · rw [if_neg (by simp [h1])] at h ⊢
      obtain ⟨q1, q2⟩ := text_back h0 h1
      obtain ⟨q3, q4, q5⟩ := ih h1 h
      refine ⟨?_, ?_, ?_⟩
      · simp only [cat, List.map_cons, List.flatten_cons, List.append_assoc]
        rw [q1]
        congr 1
      · show ((text r).1 :: _).all _ = true
        rw [List.all_cons, Bool.and_eq_true, decide_eq_true_eq]
        exact ⟨q2, q4⟩
      · simp only [List.length_cons, q5]
    · rw [if_pos h1] at h; exact absurd h h1
theorem texts_back {r : Rd} (h0 : r.E = 0) (h : (texts r).2.E = 0) : r.S = lst (texts r).1 ++ (texts r).2.S ∧ lstE (texts r).1 = 0 := by
  unfold texts at h ⊢
  by_cases h1 : (num r 2).2.E = 0
  · rw [if_neg (by simp [h1])] at h ⊢
    by_cases h2 : 4096 < (num r 2).1
    · rw [if_pos h2] at h; cases h
    · rw [if_neg h2] at h ⊢
      by_cases h3 : (textsN (num r 2).1 (num r 2).2).2.E = 0
      · rw [if_neg (by simp [h3])]
        obtain ⟨e1, e2⟩ := num2_back h0 h1
        obtain ⟨q1, q2, q3⟩ := textsN_back _ h1 h3
        refine ⟨?_, ?_⟩
        · unfold lst
          rw [q3, List.append_assoc, ← q1]
          exact e1
        · unfold lstE
          rw [if_neg (by omega), if_pos q2]
      · rw [if_pos h3] at h; exact absurd h h3
  · rw [if_pos h1] at h; exact absurd h h1
theorem texts_fault {r : Rd} (h : (texts r).2.E ≠ 0) : (texts r).1 = [] ∧ (texts r).2.S = r.S := by
  unfold texts at h ⊢
  by_cases h1 : (num r 2).2.E = 0
  · rw [if_neg (by simp [h1])] at h ⊢
    by_cases h2 : 4096 < (num r 2).1
    · rw [if_pos h2]; exact ⟨rfl, rfl⟩
    · rw [if_neg h2] at h ⊢
      by_cases h3 : (textsN (num r 2).1 (num r 2).2).2.E = 0
      · rw [if_neg (by simp [h3])] at h; exact absurd h3 h
      · rw [if_pos h3]; exact ⟨rfl, rfl⟩
  · rw [if_pos h1]; exact ⟨rfl, (num_fault h1).2⟩
theorem text_fault {r : Rd} (h : (text r).2.E ≠ 0) : (text r).1 = [] ∧ (text r).2.S = r.S := by
  unfold text at h ⊢
  by_cases h1 : (num r 2).2.E = 0
  · rw [if_neg (by simp [h1])] at h ⊢
    by_cases h2 : (take (num r 2).2 (num r 2).1).2.E = 0
    · rw [if_neg (by simp [h2])] at h; exact absurd h2 h
    · rw [if_pos h2]; exact ⟨rfl, rfl⟩
  · rw [if_pos h1]; exact ⟨rfl, (num_fault h1).2⟩
end Go.Proofs.Ytijfdnaolgbpmaa.Pk
