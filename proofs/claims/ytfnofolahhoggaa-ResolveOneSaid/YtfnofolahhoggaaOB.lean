/- A slice of bytes of the call's own. -/
import Derived.Test.YtfnofolahhoggaaBK
import Derived.Lib.BufferRead
import Derived.Laws.OwnMore
set_option linter.unusedVariables false
namespace Go.Proofs.Ytfnofolahhoggaa
open Go.RowKit

theorem infoByte : (Try.prog.info? 5).map (fun i => (i.zero, i.size, i.bytes)) = some (some (.int .u8 0), 1, 1) := by kernel_rfl
theorem vi' {k : IntKind} {a b : Int} (h : a = b) : Value.int k a = Value.int k b := by rw [h]

/-- A slice of the call's own that holds the bytes l. -/
def Own (B : Nat) (l : List UInt8) (v : Value) (w : World) : Prop := w.ownsRow B 5 1 v l.length (Lib.byteCells l)

theorem own_nil (B : Nat) (w : World) : Own B [] (.slice none 0 0) w := World.ownsRow_nil _ _ _ _

theorem own_text {B : Nat} {l : List UInt8} {v : Value} {w : World} (h : Own B l v w) : (convert 86 9 v).run Try.prog w = .ok (.string ⟨l.toArray⟩) w := by
  unfold Own at h
  rcases h.2 with ⟨rfl, h0⟩ | ⟨g, cap, cur, rfl, hBg, hg, hnc, hcm, hcs, htk⟩
  · have : l = [] := by simpa using h0
    subst this
    exact Lib.run_convert_nil_bytes w 86 9 5 0 Try.underlying86 Try.underlying5 Try.underlying9
  · exact run_convert_bytes_back w 86 9 5 ⟨g, 0, none⟩ cap l Try.underlying86 Try.underlying5 Try.underlying9 (Lib.bytes_of_row hg (by simpa using htk))

theorem own_slice {B : Nat} {l : List UInt8} {v : Value} {w : World} (h : Own B l v w) : ∃ a n c, v = .slice a n c := by
  unfold Own at h
  rcases h.2 with ⟨rfl, _⟩ | ⟨g, cap, cur, rfl, _⟩
  · exact ⟨_, _, _, rfl⟩
  · exact ⟨_, _, _, rfl⟩

theorem own_one {B : Nat} {l : List UInt8} {x : UInt8} {v : Value} {w : World} {y : Int} (hy : y = (x.toNat : Int)) (h : w.ownsRow B 5 1 v (l.length + 1) (Lib.byteCells l ++ [.int .u8 y])) : Own B (l ++ [x]) v w := by
  unfold Own
  rw [List.length_append, Lib.byteCells_append, hy] at *
  exact h

theorem new_one (W : World) (x : Value) : ∀ j u, [x][j]? = some u → (W.alloc (.cells #[x] 5)).cell? ((⟨W.heap.size, 0, none⟩ : Addr).add j) = some u := by
  intro j u hj
  have hnew : (W.alloc (.cells #[x] 5)).heap[W.heap.size]? = some (.cells #[x] 5 (0, 0)) := heap_alloc_new W _
  rcases j with _ | j
  · simp at hj; subst hj
    show (W.alloc (.cells #[x] 5)).cell? ⟨W.heap.size, 0, none⟩ = _
    rw [Lib.cell_of_heap hnew]; rfl
  · simp at hj

theorem ret_str {l l' : List UInt8} (h : l = l') : Ending.returned (.string ⟨l.toArray⟩) = .returned (.string ⟨l'.toArray⟩) := by rw [h]

theorem app_below {B n : Nat} {l : List UInt8} {v : Value} {w wr w1 : World} {X : Obj} (hb : Below B w wr) (hB : B ≤ wr.heap.size) (hown : wr.ownsRow B 5 1 v n (Lib.byteCells l)) (hg : (wr.alloc X).grownBy w1 v.ownBlock) : Below B w w1 :=
  (hb.alloc hB X).grown hg (by simp; omega) (fun k hk => (hown.lt k hk).1)

end Go.Proofs.Ytfnofolahhoggaa
