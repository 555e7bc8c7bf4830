/- ShaPieces: what it needs of lists of texts. -/
import Derived.Test.YthdnnkocbpkncaaDoorL
set_option linter.unusedVariables false
namespace Go.Proofs.YthdnnkocbpkncaaDoor
open Go.RowKit

/-- A slice of the call's own that holds texts. -/
def strs (l : List ByteArray) : List Value := l.map Value.string
theorem strs_length (l : List ByteArray) : (strs l).length = l.length := by simp [strs]
theorem strs_one (l : List ByteArray) : ∀ v ∈ strs l, v.oneCell' = true := by
  intro v hv; simp only [strs, List.mem_map] at hv; obtain ⟨x, _, rfl⟩ := hv; rfl
theorem strs_getD (l : List ByteArray) (j : Nat) (h : j < l.length) : (strs l)[j]? = some (.string (l.getD j ⟨#[]⟩)) := by simp [strs, h]
theorem infoStr : (Tryd.prog.info? 9).map (fun i => (i.zero, i.size, i.bytes)) = some (some (.string ⟨#[]⟩), 1, 16) := by kernel_rfl
/-- l from i to k. -/
def mid (ss : List ByteArray) (i k : Nat) : List ByteArray := (ss.drop i).take (k - i)
theorem mid_length (ss : List ByteArray) (i k : Nat) (h1 : i ≤ k) (h2 : k ≤ ss.length) : (mid ss i k).length = k - i := by
  unfold mid; rw [List.length_take, List.length_drop]; omega
theorem mid_getD (ss : List ByteArray) (i k j : Nat) (h1 : i ≤ k) (h2 : k ≤ ss.length) (hj : j < k - i) : (mid ss i k).getD j ⟨#[]⟩ = ss.getD (i + j) ⟨#[]⟩ := by
  unfold mid
  rw [List.getD_eq_getElem?_getD, List.getD_eq_getElem?_getD, List.getElem?_take_of_lt hj, List.getElem?_drop]
theorem take_mid (ss : List ByteArray) (i k : Nat) (h1 : i ≤ k) : ss.take i ++ mid ss i k = ss.take k := by
  unfold mid
  obtain ⟨d, rfl⟩ : ∃ d, k = i + d := ⟨k - i, by omega⟩
  rw [Nat.add_sub_cancel_left, List.take_add]
theorem allNats_append (a b : List ByteArray) : allNats (a ++ b) = allNats a ++ allNats b := by unfold allNats; rw [List.flatMap_append]
theorem allNats_mid (ss : List ByteArray) (i k : Nat) (h1 : i ≤ k) : allNats (ss.take k) = allNats (ss.take i) ++ allNats (mid ss i k) := by
  rw [← allNats_append, take_mid ss i k h1]
theorem news_mid {w : World} {b o : Nat} {ss : List ByteArray} (hc : ∀ j, j < ss.length → w.cell? ⟨b, o + j, none⟩ = some (.string (ss.getD j ⟨#[]⟩))) (i k : Nat) (h1 : i ≤ k) (h2 : k ≤ ss.length) :
    ∀ j u, (strs (mid ss i k))[j]? = some u → w.cell? ((⟨b, o + i, none⟩ : Addr).add j) = some u := by
  intro j u hj
  have hlt : j < k - i := by
    have := (List.getElem?_eq_some_iff.1 hj).1
    rw [strs_length, mid_length ss i k h1 h2] at this; exact this
  rw [strs_getD _ _ (by rw [mid_length ss i k h1 h2]; exact hlt), mid_getD ss i k j h1 h2 hlt] at hj
  rw [Addr.add_mid, Nat.add_assoc, hc (i + j) (by omega)]
  exact hj
/-- The slice that append made, as Write takes it. -/
theorem strs_of_own {B : Nat} {w : World} {v : Value} {l : List ByteArray} {g : Nat} (h : w.ownsRow B 9 1 v l.length (strs l)) (hg : g < B) :
    ∃ a c, v = .slice a l.length c ∧ (l = [] ∨ ∃ b o, a = some ⟨b, o, none⟩ ∧ b < w.heap.size ∧ b ≠ g ∧ ∀ j, j < l.length → w.cell? ⟨b, o + j, none⟩ = some (.string (l.getD j ⟨#[]⟩))) := by
  rcases h.2 with ⟨rfl, h0⟩ | ⟨k, cap, cur, rfl, hBk, hk, hnc, hcm, hcs, htk⟩
  · have : l = [] := by simpa [strs] using h0
    subst this
    exact ⟨none, 0, rfl, .inl rfl⟩
  · refine ⟨_, _, rfl, .inr ⟨k, 0, rfl, ?_, by omega, fun j hj => ?_⟩⟩
    · rcases Nat.lt_or_ge k w.heap.size with hlt | hge
      · exact hlt
      · rw [Array.getElem?_eq_none hge] at hk; cases hk
    · rw [cell_of_row _ _ _ _ _ _ hk, Nat.zero_add, ← Array.getElem?_toList]
      have h1 := strs_getD l j hj
      rw [← h1]
      have h2 : cur.toList[j]? = (cur.toList.take (strs l).length)[j]? := by rw [List.getElem?_take_of_lt (by rw [strs_length]; exact hj)]
      rw [h2]
      first
        | (rw [htk])
        | (simp [strs_length] at htk ⊢; rw [← htk])
theorem sum_size (l : List Nat) : (str (Sh.sum l)).size = 32 := by
  rw [← nats_length, nats_str (Sh.sum l) (Sh.digest_small _)]; exact Sh.sum_length _
theorem nats_add (a b : ByteArray) : nats (a ++ b) = nats a ++ nats b := by
  unfold nats
  simp
end Go.Proofs.YthdnnkocbpkncaaDoor
