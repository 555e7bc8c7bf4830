/- What strings.Builder's WriteString does at the program's writing: beside it all blocks of other types stay. -/
import Derived.Test.YtbpdoiikleaidaaX12
import Derived.Test.YtbpdoiikleaidaaX04
set_option linter.unusedVariables false
namespace Go.Proofs.Ytbpdoiikleaidaa
open Go Go.RowKit

/-- All blocks that hold neither a writing nor bytes stay. -/
def Kept (w w' : World) : Prop := ∀ k t cs, Blk w k t cs → t ≠ 56 → t ≠ 5 → Blk w' k t cs
theorem Kept.refl (w : World) : Kept w w := fun _ _ _ h _ _ => h
theorem Kept.trans {a b c : World} (h : Kept a b) (h2 : Kept b c) : Kept a c := fun k t cs hb h3 h4 => h2 k t cs (h k t cs hb h3 h4) h3 h4
theorem Kept.of_below {w w' : World} (h : Below w.heap.size w w') : Kept w w' := fun k t cs hb _ _ => hb.below h hb.lt
theorem liesWr : LiesB 56 := ⟨by decide, by kernel_rfl⟩

set_option maxHeartbeats 2000000 in
set_option maxRecDepth 100000 in
theorem bw_any (B b : Nat) (bs : List Value) (s : ByteArray) (w : World) (h : Lib.IsBuilder 56 5 B b bs w) (hlen : bs.length + s.size ≤ 140737488355328) (hBw : B ≤ w.heap.size) :
    Calls Try.prog 35 #[.pointer (some ⟨b, 0, none⟩), .string s] w fun e w' => e = .returned (.tuple #[.int .i64 s.size, .nilIface]) ∧ (Lib.BuilderAt 56 5 B b (.pointer (some ⟨b, 0, none⟩)) (bs ++ Lib.byteCells s.data.toList) w' ∧ Below B w w' ∧ Kept w w') := by
  obtain ⟨i0, hi, hz0, hz1, hz2⟩ := info_parts infoByte
  have cC : Calls Try.prog 55 #[.pointer (some ⟨b, 0, none⟩)] w fun e w' => e = .returned (.tuple #[]) ∧ (Lib.BuilderAt 56 5 B b (.pointer (some ⟨b, 0, none⟩)) bs w' ∧ Below B w w' ∧ Kept w w') := by
    rcases h with h | h
    · refine (check_fresh liesWr b w h.cell0 h.shape h.frozen0).mono ?_
      rintro e w' ⟨rfl, rfl⟩
      refine ⟨rfl, h.used _, (Below.refl B w).setCell (p := ⟨b, 0, none⟩) h.1 _, fun k t cs hb h3 h4 => ?_⟩
      obtain ⟨_, v, hbk, _⟩ := h
      exact hb.far (p := ⟨b, 0, none⟩) (hb.ne (show Blk w b 56 [.pointer none, v] from hbk) h3) _
    · refine (check_used b w h.cell0).mono ?_
      rintro e w' ⟨rfl, rfl⟩
      exact ⟨rfl, h, Below.refl B _, Kept.refl _⟩
  clear h
  have CC := Lib.hid cC
  clear cC
  go_enter Try.func35, Try.ntmps35
  go_wp2_with (go_at_call 55; refine CC.out.mono ?_)
  rintro e w1 ⟨rfl, h1', hb1, hk1⟩
  have HK1 := Lib.hid hk1
  clear CC hk1
  obtain ⟨hB, v, hbk, hown, hne⟩ := h1'
  have c0 : w1.cell? ⟨b, 0, none⟩ = some (.pointer (some ⟨b, 0, none⟩)) := by rw [Lib.cell_of_heap hbk]; rfl
  have c1 : w1.cell? ⟨b, 1, none⟩ = some v := by rw [Lib.cell_of_heap hbk]; rfl
  go_wp2_with (at_builtin; refine Lib.wpList_append_own_string _ rfl _ _ 52 9 rfl B 5 i0 Try.underlying52 Try.underlying9 hi hz0 hz1 hz2 _ _ _ rfl hown s rfl ?c3 ?c4 ?c5 ?_)
  case c3 => unfold maxLen; omega
  case c4 => omega
  case c5 => have := hb1.size; omega
  intro v' w2 hown' hgrow _
  have hlt : b < w1.heap.size := lt_of_heap hbk
  have hb2 : w2.heap[b]? = some (.cells #[.pointer (some ⟨b, 0, none⟩), v] 56 (0, 0)) := by
    rw [hgrow.block b hlt (fun e => hne e.symm)]
    exact hbk
  have HK2 : Hid (Kept w1 w2) := Lib.hid (fun k t cs hb h3 h4 => by
    refine hb.grown hgrow (fun e => ?_)
    rcases hown.2 with ⟨hv, _⟩ | ⟨g, cap, cur, hv, _, hg, _⟩
    · rw [hv] at e; cases e
    · rw [hv] at e
      have e2 : k = g := Option.some.inj e
      subst e2
      unfold Blk at hb
      rw [hg] at hb
      injection hb with hb
      injection hb with _ hb
      exact h4 hb.symm)
  have d0 : w2.cell? ⟨b, 0, none⟩ = some (.pointer (some ⟨b, 0, none⟩)) := by rw [Lib.cell_of_heap hb2]; rfl
  have d1 : w2.cell? ⟨b, 1, none⟩ = some v := by rw [Lib.cell_of_heap hb2]; rfl
  have f1 : w2.frozen? ⟨b, 1, none⟩ = false := Lib.frozen_of_heap hb2 1
  obtain ⟨ao, n', cap, rfl⟩ : ∃ ao n' cap, v' = .slice ao n' cap := by
    rcases hown'.2 with ⟨hv, _⟩ | ⟨g, cap, cur, hv, _⟩
    · exact ⟨_, _, _, hv⟩
    · exact ⟨_, _, _, hv⟩
  have hl : (Lib.byteCells s.data.toList).length = s.size := by rw [Lib.byteCells_length]; rfl
  go_wp2
  go_ret2
  refine ⟨rfl, ?_, ?_, ?_⟩
  · exact Lib.BuilderAt.put (T := 56) (e := 5) hB hb2 (bs' := bs ++ Lib.byteCells s.data.toList) (by rw [List.length_append, hl]; exact hown') liesWr.1
  · exact (hb1.grown hgrow (by have := hb1.size; omega) (fun k hk => (hown.lt k hk).1)).setCell (p := ⟨b, 1, none⟩) hB _
  · exact (HK1.out.trans HK2.out).trans (fun k t cs hb h3 h4 => hb.far (p := ⟨b, 1, none⟩) (hb.ne (show Blk w2 b 56 [.pointer (some ⟨b, 0, none⟩), v] from hb2) h3) _)

/-- The program's writing behind b has written l; below w0 all is as it was. -/
structure Wt (w0 w : World) (b : Nat) (l : List UInt8) : Prop where
  ib : Lib.IsBuilder 56 5 w0.heap.size b (Lib.byteCells l) w
  low : Below w0.heap.size w0 w
section
variable {w0 w w' : World} {b : Nat} {l : List UInt8}
theorem ibw_kept {T e : TypeId} {B : Nat} {bs : List Value} (h : Lib.IsBuilder T e B b bs w) (hb : Below w.heap.size w w') : Lib.IsBuilder T e B b bs w' := by
  have key : ∀ p, Lib.BuilderAt T e B b p bs w → Lib.BuilderAt T e B b p bs w' := by
    rintro p ⟨hB, v, hbk, hown, hne⟩
    refine ⟨hB, v, (hb.block b (lt_of_heap hbk)).trans hbk, ⟨hown.1, ?_⟩, hne⟩
    rcases hown.2 with h0 | ⟨g, cap, cur, hv, hBg, hg, r⟩
    · exact .inl h0
    · exact .inr ⟨g, cap, cur, hv, hBg, (hb.block g (lt_of_heap hg)).trans hg, r⟩
  rcases h with h | h
  · exact Or.inl (key _ h)
  · exact Or.inr (key _ h)
theorem Wt.below (h : Wt w0 w b l) (hb : Below w.heap.size w w') : Wt w0 w' b l := ⟨ibw_kept h.ib hb, h.low.trans (hb.mono h.low.size)⟩
theorem Wt.writes (h : Wt w0 w b l) (s : List UInt8) (hl : l.length + s.length ≤ 140737488355328) :
    Calls Try.prog 35 #[.pointer (some ⟨b, 0, none⟩), .string (tx s)] w fun e w' => e = .returned (.tuple #[.int .i64 (tx s).size, .nilIface]) ∧ Wt w0 w' b (l ++ s) ∧ Kept w w' := by
  refine (bw_any w0.heap.size b _ (tx s) w h.ib (by rw [Lib.byteCells_length, tx_size]; exact hl) h.low.size).mono ?_
  rintro e w' ⟨rfl, h1, h2, h3⟩
  refine ⟨rfl, ⟨.inr ?_, h.low.trans h2⟩, h3⟩
  rw [Lib.byteCells_append]
  have e1 : (tx s).data.toList = s := by simp [tx]
  rw [e1] at h1
  exact h1
end
end Go.Proofs.Ytbpdoiikleaidaa
