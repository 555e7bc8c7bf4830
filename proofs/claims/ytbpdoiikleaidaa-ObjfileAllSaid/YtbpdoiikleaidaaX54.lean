/- Lists of texts of the call's own. -/
import Derived.Test.YtbpdoiikleaidaaX03
import Derived.Laws.OwnMore
import Derived.Laws.AppendOwn
import Derived.Lib.BufferRead
set_option linter.unusedVariables false
namespace Go.Proofs.Ytbpdoiikleaidaa
open Go Go.RowKit

/-! lists of texts of the call's own -/
def strsV (L : List (List UInt8)) : List Value := L.map fun s => Value.string (tx s)
theorem strsV_length (L : List (List UInt8)) : (strsV L).length = L.length := by simp [strsV]
theorem infoStr : (Try.prog.info? 9).map (fun i => (i.zero, i.size, i.bytes)) = some (some (.string ⟨#[]⟩), 1, 16) := by kernel_rfl
/-- A slice of the call's own that holds the texts L. -/
def OwnL (B : Nat) (L : List (List UInt8)) (v : Value) (w : World) : Prop := w.ownsRow B 9 1 v L.length (strsV L)
theorem ownL_nil (B : Nat) (w : World) : OwnL B [] (.slice none 0 0) w := World.ownsRow_nil _ _ _ _
theorem OwnL.slAt {B : Nat} {L : List (List UInt8)} {v : Value} {w : World} (h : OwnL B L v w) : SlAt w v L := by
  unfold OwnL at h
  rcases h.2 with ⟨rfl, h0⟩ | ⟨k, cap, cur, rfl, hBk, hk, hnc, hcm, hcs, htk⟩
  · have : L = [] := List.length_eq_zero_iff.1 h0
    subst this
    exact ⟨none, 0, rfl, fun h => absurd rfl h⟩
  · refine ⟨_, _, rfl, fun _ => ⟨k, 0, rfl, ?_, fun j hj => ?_⟩⟩
    · rcases Nat.lt_or_ge k w.heap.size with hlt | hge
      · exact hlt
      · rw [Array.getElem?_eq_none hge] at hk; cases hk
    · rw [cell_of_row _ _ _ _ _ _ hk, Nat.zero_add, ← Array.getElem?_toList]
      have h2 : cur.toList[j]? = (cur.toList.take (L.length * 1))[j]? := by rw [List.getElem?_take_of_lt (by omega)]
      rw [h2, htk]
      simp [strsV, hj]
theorem OwnL.grown {B g : Nat} {L : List (List UInt8)} {v : Value} {w w' : World} (h : OwnL B L v w) (hg : w.grownBy w' (some g)) (hB : g < B) : OwnL B L v w' := by
  refine World.ownsRow.kept h hg ?_
  cases hv : v.ownBlock with
  | none => left; rfl
  | some k => right; intro he; cases he; have := (World.ownsRow.lt h _ hv).1; omega
theorem OwnL.slice {B : Nat} {L : List (List UInt8)} {v : Value} {w : World} (h : OwnL B L v w) : ∃ a n c, v = .slice a n c := by
  unfold OwnL at h
  rcases h.2 with ⟨rfl, _⟩ | ⟨g, cap, cur, rfl, _⟩
  · exact ⟨_, _, _, rfl⟩
  · exact ⟨_, _, _, rfl⟩
theorem new_str (W : World) (x : Value) : ∀ j u, [x][j]? = some u → (W.alloc (.cells #[x] 9)).cell? ((⟨W.heap.size, 0, none⟩ : Addr).add j) = some u := by
  intro j u hj
  have hnew : (W.alloc (.cells #[x] 9)).heap[W.heap.size]? = some (.cells #[x] 9 (0, 0)) := heap_alloc_new W _
  rcases j with _ | j
  · simp at hj; subst hj
    show (W.alloc (.cells #[x] 9)).cell? ⟨W.heap.size, 0, none⟩ = _
    rw [Lib.cell_of_heap hnew]; rfl
  · simp at hj
end Go.Proofs.Ytbpdoiikleaidaa
