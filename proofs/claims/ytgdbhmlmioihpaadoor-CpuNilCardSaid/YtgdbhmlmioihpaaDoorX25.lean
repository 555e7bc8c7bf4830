/- Bytes of one's own as a text; bytes 0. -/
import Derived.Test.YtgdbhmlmioihpaaDoorX05
import Derived.Lib.BufferRead
import Derived.Laws.OwnMore
import Derived.Deep.AppendLies
set_option linter.unusedVariables false
namespace Go.Proofs.YtgdbhmlmioihpaaDoor
open Go.RowKit Go.Maps

theorem own_text {B : Nat} {l : List UInt8} {v : Value} {w : World} (h : w.ownsRow B 5 1 v l.length (Lib.byteCells l)) : (convert 56 9 v).run Tryd.prog w = .ok (.string ⟨l.toArray⟩) w := by
  rcases h.2 with ⟨rfl, h0⟩ | ⟨g, cap, cur, rfl, hBg, hg, hnc, hcm, hcs, htk⟩
  · have : l = [] := by simpa using h0
    subst this
    exact Lib.run_convert_nil_bytes w 56 9 5 0 Tryd.underlying56 Tryd.underlying5 Tryd.underlying9
  · exact run_convert_bytes_back (P := Tryd.prog) w 56 9 5 ⟨g, 0, none⟩ cap l Tryd.underlying56 Tryd.underlying5 Tryd.underlying9 (Lib.bytes_of_row hg (by simpa using htk))
theorem zeros_row {B n : Nat} {v : Value} {w : World} (h : w.ownsRow B 5 1 v n (madeCells (Value.int .u8 0).cells (n * 1)).toList) : w.ownsRow B 5 1 v (List.replicate n (0 : UInt8)).length (Lib.byteCells (List.replicate n (0 : UInt8))) := by
  have e : (madeCells (Value.int .u8 0).cells (n * 1)).toList = Lib.byteCells (List.replicate n 0) := by
    rw [show Lib.byteCells (List.replicate n 0) = List.replicate n (Value.int .u8 0) by simp [Lib.byteCells], List.eq_replicate_iff]
    refine ⟨by simp [madeCells], fun b hb => ?_⟩
    simp only [madeCells, Array.toList_map, List.mem_map] at hb
    obtain ⟨x, _, rfl⟩ := hb
    simp [Value.cells, Nat.mod_one]
  rw [e] at h
  simpa using h

theorem perm_new (p : Nat) (h : p < 8) : ((newPg p) 256).toNat = p := by
  unfold newPg
  rw [if_pos rfl]
  simp
  omega
end Go.Proofs.YtgdbhmlmioihpaaDoor
