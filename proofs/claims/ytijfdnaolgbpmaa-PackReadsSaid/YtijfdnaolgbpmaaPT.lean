/- PackBack, ahead of its walk: what the bytes are. -/
import Derived.Test.YtijfdnaolgbpmaaPL
import Derived.Test.YtijfdnaolgbpmaaPQ
set_option linter.unusedVariables false
namespace Go.Proofs.Ytijfdnaolgbpmaa
open Go Go.RowKit Pk

theorem num4 (x : Int) (h0 : 0 ≤ x) (h1 : x < 4294967296) : numE x 4 = 0 ∧ numS x 4 = tx (Wd.le x.toNat 4) := by
  have e : Wd.putE x.toNat 4 = 0 := by
    unfold Wd.putE
    rw [if_neg (by decide), if_neg]
    have : (256 : Nat) ^ (Int.toNat 4) = 4294967296 := by decide
    omega
  refine ⟨e, ?_⟩
  unfold numS Wd.putL
  rw [if_pos e]
  rfl
theorem txtE_le {S : List UInt8} (h : S.length ≤ 65535) : txtE S = 0 := by unfold txtE; rw [if_neg (by omega)]
theorem txtE_gt {S : List UInt8} (h : ¬ S.length ≤ 65535) : txtE S = 5 := by unfold txtE; rw [if_pos (by omega)]
theorem by_append (a b : List UInt8) : by' (tx a ++ tx b) = a ++ b := by rw [tx_append, by_tx]
theorem txtS_ok {s : ByteArray} (h : txtE (by' s) = 0) : txtS s = tx (txt (by' s)) := by unfold txtS; rw [if_pos h]
theorem lstS_ok {L : List (List UInt8)} (h : lstE L = 0) : lstS L = tx (lst L) := by unfold lstS; rw [if_pos h]
/-- The reader of what was packed, and what is left after each. -/
def b0 (x : Int) (S : List UInt8) (L : List (List UInt8)) (M : List UInt8) : Rd := ⟨Wd.le x.toNat 4 ++ (txt S ++ (lst L ++ M)), 0⟩
def b1 (S : List UInt8) (L : List (List UInt8)) (M : List UInt8) : Rd := ⟨txt S ++ (lst L ++ M), 0⟩
def b2 (L : List (List UInt8)) (M : List UInt8) : Rd := ⟨lst L ++ M, 0⟩
def b3 (M : List UInt8) : Rd := ⟨M, 0⟩
theorem back_bytes (x : Int) (h0 : 0 ≤ x) (h1 : x < 4294967296) (s more : ByteArray) (L : List (List UInt8)) (hs : txtE (by' s) = 0) (hL : lstE L = 0) :
    (⟨by' (numS x 4 ++ txtS s ++ lstS L ++ more), 0⟩ : Rd) = b0 x (by' s) L (by' more) := by
  rw [(num4 x h0 h1).2, txtS_ok hs, lstS_ok hL]
  have : more = tx (by' more) := (tx_by more).symm
  rw [this, tx_append, tx_append, by_append, by_tx]
  unfold b0
  simp [List.append_assoc]
theorem b0_num (x : Int) (h0 : 0 ≤ x) (h1 : x < 4294967296) (S : List UInt8) (L : List (List UInt8)) (M : List UInt8) : Pk.num (b0 x S L M) 4 = (x.toNat, b1 S L M) := by
  unfold b0 b1
  exact num_put x.toNat 4 (by decide) (by decide) (by have : (256 : Nat) ^ 4 = 4294967296 := by decide
                                                      omega) _
theorem b1_text (S : List UInt8) (L : List (List UInt8)) (M : List UInt8) (h : S.length ≤ 65535) : text (b1 S L M) = (S, b2 L M) := text_txt S _ h
theorem b2_texts (L : List (List UInt8)) (M : List UInt8) (h : lstE L = 0) : texts (b2 L M) = (L, b3 M) := texts_lst L M h
theorem b3_nil : fin (b3 []) = b3 [] := rfl
theorem b3_cons {M : List UInt8} (h : M ≠ []) : fin (b3 M) = ⟨M, 7⟩ := by unfold fin b3; rw [if_neg (by simp), if_pos h]
theorem lst_length (L : List (List UInt8)) : (lst L).length = (cat L).length + 2 := by unfold lst; rw [List.length_append, Wd.le_length]; omega
theorem b0_length (x : Int) (S : List UInt8) (L : List (List UInt8)) (M : List UInt8) : (b0 x S L M).S.length = 4 + (S.length + 2 + ((cat L).length + 2 + M.length)) := by
  unfold b0; simp only [List.length_append, Wd.le_length, txt_length, lst_length]
/-- What was read, packed again. -/
theorem again {b : ByteArray} {L : List (List UInt8)} {R : List UInt8} (h : by' b = lst L ++ R) (hL : lstE L = 0) : b.extract 0 (b.size - R.length) = lstS L ∧ R.length ≤ b.size := by
  have hlen : b.size = (lst L).length + R.length := by rw [← by_length, h, List.length_append]
  refine ⟨?_, by omega⟩
  rw [lstS_ok hL]
  have : b = tx (by' b) := (tx_by b).symm
  rw [this, h, tx_take, tx_size]
  congr 1
  rw [List.length_append, Nat.add_sub_cancel, List.take_left']
  rfl
end Go.Proofs.Ytijfdnaolgbpmaa
