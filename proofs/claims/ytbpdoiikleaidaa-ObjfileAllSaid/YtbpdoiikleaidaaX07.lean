/- Some texts of one proof, one behind the other; each has its own head below. -/
import Derived.Test.YtbpdoiikleaidaaX00
import Derived.Test.YtbpdoiikleaidaaProg
import Derived.WalkKit
import Derived.WalkSpells
import Derived.WalkLawsBesides
import Derived.Lib.Builder
import Derived.Lib.Strings
import Derived.Lib.Slices
import Derived.Lib.AppendStr
import Derived.Lib.UnsafeStr
import Derived.Lib.MakeNoZero
import Derived.RegionTactic
import Derived.Lib.Hide
import Derived.Laws.Externs
import Derived.Laws.IdiomCopy
import Derived.LoopTactic
import Derived.Outline
import Derived.Lib.BufferWrite
import Derived.Deep.QuietTactic
import Derived.BigQuiet
import Derived.Laws.Shifts
import Derived.Laws.BitsAllLaws
/- What strings.Builder does: contracts for copyCheck, Write and String, at a builder that the call itself has made, of whatever type that has a strings.Builder at its head. -/
section
namespace Go.Proofs.Ytbpdoiikleaidaa
open Go.RowKit

/-- A strings.Builder lies at the head of a type of two cells: itself, or a struct that embeds it. -/
def LiesB (T : TypeId) : Prop := T ≠ 5 ∧ liesAt Try.prog Try.prog.depth T (2 / Try.prog.cellsOf T) 0 54 1 = true

section
variable {T : TypeId}
theorem size49 : (Try.prog.info? 54).map (·.size) = some 2 := by kernel_rfl
theorem infoByte : (Try.prog.info? 5).map (fun i => (i.zero, i.size, i.bytes)) = some (some (.int .u8 0), 1, 1) := by kernel_rfl
theorem sizeByte : (Try.prog.info? 5).map (·.size) = some 1 := by kernel_rfl
theorem cells5 : Try.prog.cellsOf 5 = 1 := by kernel_rfl

set_option maxHeartbeats 1000000 in
set_option maxRecDepth 100000 in
theorem check_used (b : Nat) (w : World) (h0 : w.cell? ⟨b, 0, none⟩ = some (.pointer (some ⟨b, 0, none⟩))) :
    Calls Try.prog 55 #[.pointer (some ⟨b, 0, none⟩)] w fun e w' => e = .returned (.tuple #[]) ∧ w = w' := by
  obtain ⟨j, hj, hjs⟩ := Option.map_eq_some_iff.1 size49
  have hne := fun w => Lib.run_neq_ptr_same (P := Try.prog) w ⟨b, 0, none⟩ Try.underlying51 hj
  go_enter Try.func55, Try.ntmps55
  go_wp2
  go_end0
  exact ⟨rfl, rfl⟩

set_option maxHeartbeats 1000000 in
set_option maxRecDepth 100000 in
theorem check_fresh (hT : LiesB T) (b : Nat) (w : World) (h0 : w.cell? ⟨b, 0, none⟩ = some (.pointer none)) (hsh : w.shape? b = some (T, 2)) (hfz : w.frozen? ⟨b, 0, none⟩ = false) :
    Calls Try.prog 55 #[.pointer (some ⟨b, 0, none⟩)] w fun e w' => e = .returned (.tuple #[]) ∧ w' = w.setCell ⟨b, 0, none⟩ (.pointer (some ⟨b, 0, none⟩)) := by
  obtain ⟨j, hj, hjs⟩ := Option.map_eq_some_iff.1 size49
  go_enter Try.func55, Try.ntmps55
  go_wp2
  rw [Lib.run_to_unsafe w ⟨b, 0, none⟩ Try.underlying51 Try.underlying122 hj (by rw [hjs]; decide) hsh (Nat.zero_lt_succ 1)]
  simp only [Result.andThen]
  rw [Oper.upon_value]
  go_wp2
  rw [run_callFunc_extern Try.func75 (by kernel_rfl) (by kernel_rfl) (by kernel_rfl) (e := Extern.AbiNoEscape.same) (by kernel_rfl)]
  rw [Lib.run_noEscape]
  simp only [Result.andThen]
  rw [Oper.upon_value]
  go_wp2
  rw [Lib.run_from_unsafe w ⟨b, 0, none⟩ Try.underlying122 Try.underlying51 hj hsh hT.2]
  simp only [Result.andThen]
  rw [Oper.upon_value]
  go_wp2
  go_end0
  exact ⟨rfl, rfl⟩

theorem check_any (hT : LiesB T) (B b : Nat) (bs : List Value) (w : World) (h : Lib.IsBuilder T 5 B b bs w) :
    Calls Try.prog 55 #[.pointer (some ⟨b, 0, none⟩)] w fun e w' => e = .returned (.tuple #[]) ∧ (Lib.BuilderAt T 5 B b (.pointer (some ⟨b, 0, none⟩)) bs w' ∧ Below B w w') := by
  rcases h with h | h
  · refine (check_fresh hT b w h.cell0 h.shape h.frozen0).mono ?_
    rintro e w' ⟨rfl, rfl⟩
    exact ⟨rfl, h.used _, (Below.refl B w).setCell (p := ⟨b, 0, none⟩) h.1 _⟩
  · refine (check_used b w h.cell0).mono ?_
    rintro e w' ⟨rfl, rfl⟩
    exact ⟨rfl, h, Below.refl B _⟩

theorem lt_of_heap {w : World} {b : Nat} {o : Obj} (hb : w.heap[b]? = some o) : b < w.heap.size := by
  rcases Nat.lt_or_ge b w.heap.size with h' | h'
  · exact h'
  · simp [Array.getElem?_eq_none h'] at hb

set_option maxHeartbeats 2000000 in
set_option maxRecDepth 100000 in
/-- Write behind copyCheck. -/
theorem write_any (hT : LiesB T) (B b : Nat) (bs : List Value) (ad : Addr) (m c : Nat) (news : List Value) (w : World) (h : Lib.IsBuilder T 5 B b bs w)
    (hl : news.length = m) (hnews : ∀ j u, news[j]? = some u → w.cell? (ad.add j) = some u) (hadB : ad.block ≠ b) (h1 : ∀ u ∈ news, u.oneCell' = true)
    (hlen : bs.length + m ≤ 140737488355328) (hBw : B ≤ w.heap.size) :
    Calls Try.prog 93 #[.pointer (some ⟨b, 0, none⟩), .slice (some ad) m c] w fun e w' => e = .returned (.tuple #[.int .i64 m, .nilIface]) ∧ (Lib.BuilderAt T 5 B b (.pointer (some ⟨b, 0, none⟩)) (bs ++ news) w' ∧ Below B w w') := by
  obtain ⟨i0, hi, hz0, hz1, hz2⟩ := info_parts infoByte
  have cC : Calls Try.prog 55 #[.pointer (some ⟨b, 0, none⟩)] w fun e w' => e = .returned (.tuple #[]) ∧ (Lib.BuilderAt T 5 B b (.pointer (some ⟨b, 0, none⟩)) bs w' ∧ Below B w w' ∧ ∀ j u, news[j]? = some u → w'.cell? (ad.add j) = some u) := by
    rcases h with h | h
    · refine (check_fresh hT b w h.cell0 h.shape h.frozen0).mono ?_
      rintro e w' ⟨rfl, rfl⟩
      refine ⟨rfl, h.used _, (Below.refl B w).setCell (p := ⟨b, 0, none⟩) h.1 _, fun j u hj => ?_⟩
      rw [← hnews j u hj]
      exact World.cell?_of_block (Below.heap_setCell _ _ _ _ (by unfold Addr.add; split <;> exact hadB))
    · refine (check_used b w h.cell0).mono ?_
      rintro e w' ⟨rfl, rfl⟩
      exact ⟨rfl, h, Below.refl B _, hnews⟩
  clear h hnews
  go_enter Try.func93, Try.ntmps93
  go_wp2_with (go_at_call 55; refine cC.mono ?_)
  rintro e w1 ⟨rfl, h1', hb1, hnews1⟩
  clear cC
  obtain ⟨hB, v, hbk, hown, hne⟩ := h1'
  have c0 : w1.cell? ⟨b, 0, none⟩ = some (.pointer (some ⟨b, 0, none⟩)) := by rw [Lib.cell_of_heap hbk]; rfl
  have c1 : w1.cell? ⟨b, 1, none⟩ = some v := by rw [Lib.cell_of_heap hbk]; rfl
  go_wp2_with (at_builtin; refine wpList_append_own _ rfl _ _ 52 rfl B 5 i0 (.int .u8 0) 1 1 Try.underlying52 hi hz0 hz1 hz2 rfl (by decide) _ _ _ rfl hown ad m c news rfl (by omega) hnews1 h1 ?c3 ?c4 ?c5 ?_)
  case c3 => unfold maxLen; omega
  case c4 => omega
  case c5 => have := hb1.size; omega
  intro v' w2 hown' hgrow _
  have hlt : b < w1.heap.size := lt_of_heap hbk
  have hb2 : w2.heap[b]? = some (.cells #[.pointer (some ⟨b, 0, none⟩), v] T (0, 0)) := by
    rw [hgrow.block b hlt (fun e => hne e.symm)]
    exact hbk
  have d0 : w2.cell? ⟨b, 0, none⟩ = some (.pointer (some ⟨b, 0, none⟩)) := by rw [Lib.cell_of_heap hb2]; rfl
  have d1 : w2.cell? ⟨b, 1, none⟩ = some v := by rw [Lib.cell_of_heap hb2]; rfl
  have f1 : w2.frozen? ⟨b, 1, none⟩ = false := Lib.frozen_of_heap hb2 1
  obtain ⟨ao, n', cap, rfl⟩ : ∃ ao n' cap, v' = .slice ao n' cap := by
    rcases hown'.2 with ⟨hv, _⟩ | ⟨g, cap, cur, hv, _⟩
    · exact ⟨_, _, _, hv⟩
    · exact ⟨_, _, _, hv⟩
  go_wp2
  go_ret2
  refine ⟨rfl, ?_, ?_⟩
  · exact Lib.BuilderAt.put (T := T) (e := 5) hB hb2 (bs' := bs ++ news) (by simpa [hl] using hown') hT.1
  · exact (hb1.grown hgrow (by have := hb1.size; omega) (fun k hk => (hown.lt k hk).1)).setCell (p := ⟨b, 1, none⟩) hB _

/-! String -/

theorem unsafeString_none (W : World) (q : Option Addr) : (Builtin.unsafeString_ #[90, 3] 9 #[.pointer q, .int .i64 0]).run Try.prog W = .ok (.string .empty) W :=
  Lib.run_unsafeString_none W _ _ _ q

set_option maxHeartbeats 2000000 in
set_option maxRecDepth 100000 in
theorem string_some (B b : Nat) (l : List UInt8) (w : World) (h : Lib.IsBuilder T 5 B b (Lib.byteCells l) w) (h0 : l ≠ []) :
    Calls Try.prog 18 #[.pointer (some ⟨b, 0, none⟩)] w fun e w' => e = .returned (.string ⟨l.toArray⟩) ∧ Below B w w' := by
  obtain ⟨p, hB, v, hbk, hown, hne⟩ : ∃ p, Lib.BuilderAt T 5 B b p (Lib.byteCells l) w := by
    rcases h with h | h
    · exact ⟨_, h⟩
    · exact ⟨_, h⟩
  have hl0 : l.length ≠ 0 := by simpa using h0
  rw [Lib.byteCells_length] at hown
  obtain ⟨g, cap, cur, rfl, hbg, hg, hnc, hcm, hcs, htake⟩ : ∃ g cap cur, v = .slice (some ⟨g, 0, none⟩) l.length cap ∧ B ≤ g ∧ w.heap[g]? = some (.cells cur 5 (0, 0)) ∧ l.length ≤ cap ∧ cap ≤ maxLen ∧ cur.size = cap * 1 ∧ cur.toList.take (l.length * 1) = Lib.byteCells l := by
    rcases hown.2 with ⟨_, hz⟩ | ⟨g, cap, cur, hv, r⟩
    · exact absurd hz hl0
    · exact ⟨g, cap, cur, hv, r⟩
  have c1 : w.drew.cell? ⟨b, 1, none⟩ = some (.slice (some ⟨g, 0, none⟩) l.length cap) := by
    have : w.drew.heap[b]? = some (.cells #[p, .slice (some ⟨g, 0, none⟩) l.length cap] T (0, 0)) := hbk
    rw [Lib.cell_of_heap this]; rfl
  have hSD : (Builtin.unsafeSliceData_ #[52] 90 #[.slice (some ⟨g, 0, none⟩) l.length cap]).run Try.prog w.drew = .ok (.pointer (some ⟨g, 0, none⟩)) w.drew :=
    Lib.run_unsafeSliceData_row _ _ _ _ _ _ (by omega)
  have hUS : (Builtin.unsafeString_ #[90, 3] 9 #[.pointer (some ⟨g, 0, none⟩), .int .i64 l.length]).run Try.prog w.drew = .ok (.string ⟨l.toArray⟩) (w.drew.freeze ⟨g, 0, none⟩ l.length) := by
    refine Lib.run_unsafeString_row w.drew 90 3 9 5 Try.underlying90 cells5 g cur.size (by have hg' : w.drew.heap[g]? = some (.cells cur 5 (0, 0)) := hg; simp [World.shape?, hg']) l h0 (by omega) (by unfold maxLen at hcm; omega) ?_
    intro j x hx
    have := hown.cells (g := g) rfl j (.int .u8 x.toNat) (by simp [Lib.byteCells, hx])
    exact this
  go_enter Try.func18, Try.ntmps18
  go_wp2
  go_region
  all_goals (go_wp2; go_ret; exact ⟨rfl, Lib.below_freeze (Below.drew (Below.refl B w)) (p := ⟨g, 0, none⟩) hbg _⟩)

set_option maxHeartbeats 2000000 in
set_option maxRecDepth 100000 in
theorem string_nil (B b : Nat) (p : Value) (w : World) (hbk : w.heap[b]? = some (.cells #[p, .slice none 0 0] T (0, 0))) :
    Calls Try.prog 18 #[.pointer (some ⟨b, 0, none⟩)] w fun e w' => e = .returned (.string ⟨#[]⟩) ∧ Below B w w' := by
  have hUS := unsafeString_none
  have c1 : w.drew.cell? ⟨b, 1, none⟩ = some (.slice none 0 0) := by
    have : w.drew.heap[b]? = some (.cells #[p, .slice none 0 0] T (0, 0)) := hbk
    rw [Lib.cell_of_heap this]; rfl
  have hSD : (Builtin.unsafeSliceData_ #[52] 90 #[.slice none 0 0]).run Try.prog w.drew = .ok (.pointer none) w.drew := rfl
  go_enter Try.func18, Try.ntmps18
  go_wp2
  go_region
  all_goals (go_wp2; go_ret; exact ⟨rfl, Below.drew (Below.refl B w)⟩)

set_option maxHeartbeats 2000000 in
set_option maxRecDepth 100000 in
theorem string_noroom (B b g : Nat) (p : Value) (cur : Array Value) (w : World) (hBw : B ≤ w.heap.size) (hbk : w.heap[b]? = some (.cells #[p, .slice (some ⟨g, 0, none⟩) 0 0] T (0, 0))) (hg : w.heap[g]? = some (.cells cur 5 (0, 0))) :
    Calls Try.prog 18 #[.pointer (some ⟨b, 0, none⟩)] w fun e w' => e = .returned (.string ⟨#[]⟩) ∧ Below B w w' := by
  have hUS := unsafeString_none
  have hlt : b < w.heap.size := lt_of_heap hbk
  have c1 : w.drew.cell? ⟨b, 1, none⟩ = some (.slice (some ⟨g, 0, none⟩) 0 0) := by
    have : w.drew.heap[b]? = some (.cells #[p, .slice (some ⟨g, 0, none⟩) 0 0] T (0, 0)) := hbk
    rw [Lib.cell_of_heap this]; rfl
  have hSD : (Builtin.unsafeSliceData_ #[52] 90 #[.slice (some ⟨g, 0, none⟩) 0 0]).run Try.prog w.drew = .ok (.pointer (some ⟨w.drew.heap.size, 0, none⟩)) (w.drew.alloc (.view ⟨g, 0, none⟩ 5)) :=
    Lib.run_unsafeSliceData_zero w.drew _ _ 5 Try.underlying90 ⟨g, 0, none⟩ 0 (5, cur.size) (by have hg' : w.drew.heap[g]? = some (.cells cur 5 (0, 0)) := hg; simp [World.shape?, hg'])
  have c2 : (w.drew.alloc (.view ⟨g, 0, none⟩ 5)).cell? ⟨b, 1, none⟩ = some (.slice (some ⟨g, 0, none⟩) 0 0) := by
    have : (w.drew.alloc (.view ⟨g, 0, none⟩ 5)).heap[b]? = _ := (Lib.alloc_old w.drew _ b hlt).trans hbk
    rw [Lib.cell_of_heap this]; rfl
  have c3 : (w.alloc (.view ⟨g, 0, none⟩ 5)).drew.cell? ⟨b, 1, none⟩ = some (.slice (some ⟨g, 0, none⟩) 0 0) := c2
  have c0 : w.cell? ⟨b, 1, none⟩ = some (.slice (some ⟨g, 0, none⟩) 0 0) := c1
  go_enter Try.func18, Try.ntmps18
  go_wp2
  go_region
  all_goals (go_wp2; go_ret; exact ⟨rfl, (Below.drew (Below.refl B w)).alloc hBw _⟩)

set_option maxHeartbeats 2000000 in
set_option maxRecDepth 100000 in
theorem string_room (B b g cap : Nat) (p : Value) (w : World) (hc0 : cap ≠ 0) (hbk : w.heap[b]? = some (.cells #[p, .slice (some ⟨g, 0, none⟩) 0 cap] T (0, 0))) :
    Calls Try.prog 18 #[.pointer (some ⟨b, 0, none⟩)] w fun e w' => e = .returned (.string ⟨#[]⟩) ∧ Below B w w' := by
  have hUS := unsafeString_none
  have c1 : w.drew.cell? ⟨b, 1, none⟩ = some (.slice (some ⟨g, 0, none⟩) 0 cap) := by
    have : w.drew.heap[b]? = some (.cells #[p, .slice (some ⟨g, 0, none⟩) 0 cap] T (0, 0)) := hbk
    rw [Lib.cell_of_heap this]; rfl
  have hSD : (Builtin.unsafeSliceData_ #[52] 90 #[.slice (some ⟨g, 0, none⟩) 0 cap]).run Try.prog w.drew = .ok (.pointer (some ⟨g, 0, none⟩)) w.drew :=
    Lib.run_unsafeSliceData_row _ _ _ _ _ _ hc0
  clear hc0
  go_enter Try.func18, Try.ntmps18
  go_wp2
  go_region
  all_goals (go_wp2; go_ret; exact ⟨rfl, Below.drew (Below.refl B w)⟩)

/-- String at whatever the builder holds. -/
theorem string_any (B b : Nat) (l : List UInt8) (w : World) (h : Lib.IsBuilder T 5 B b (Lib.byteCells l) w) (hBw : B ≤ w.heap.size) :
    Calls Try.prog 18 #[.pointer (some ⟨b, 0, none⟩)] w fun e w' => e = .returned (.string ⟨l.toArray⟩) ∧ Below B w w' := by
  by_cases h0 : l = []
  · subst h0
    obtain ⟨p, hB, v, hbk, hown, hne⟩ : ∃ p, Lib.BuilderAt T 5 B b p (Lib.byteCells []) w := by
      rcases h with h | h
      · exact ⟨_, h⟩
      · exact ⟨_, h⟩
    rcases hown.2 with ⟨rfl, _⟩ | ⟨g, cap, cur, hv, hbg, hg, _⟩
    · exact string_nil B b p w hbk
    · have hv' : v = .slice (some ⟨g, 0, none⟩) 0 cap := hv
      subst hv'
      by_cases hc : cap = 0
      · subst hc
        exact string_noroom B b g p cur w hBw hbk hg
      · exact string_room B b g cap p w hc hbk
  · exact string_some B b l w h h0

end
end Go.Proofs.Ytbpdoiikleaidaa
end

/- What package word's Put does, for whatever it is called with. -/
section
namespace Go.Proofs.Ytbpdoiikleaidaa
open Go.RowKit

theorem bat_alloc {T e : TypeId} {B b : Nat} {p : Value} {bs : List Value} {w : World} (h : Lib.BuilderAt T e B b p bs w) (o : Obj) : Lib.BuilderAt T e B b p bs (w.alloc o) := by
  obtain ⟨hB, v, hb, hown, hne⟩ := h
  exact ⟨hB, v, (Lib.alloc_old w o b (lt_of_heap hb)).trans hb, hown.alloc o, hne⟩
theorem ib_alloc {T e : TypeId} {B b : Nat} {bs : List Value} {w : World} (h : Lib.IsBuilder T e B b bs w) (o : Obj) : Lib.IsBuilder T e B b bs (w.alloc o) := by
  rcases h with h | h
  · exact Or.inl (bat_alloc h o)
  · exact Or.inr (bat_alloc h o)
theorem ib_lt {T e : TypeId} {B b : Nat} {bs : List Value} {w : World} (h : Lib.IsBuilder T e B b bs w) : b < w.heap.size := by
  rcases h with h | h
  · exact h.lt
  · exact h.lt
theorem ib_le {T e : TypeId} {B b : Nat} {bs : List Value} {w : World} (h : Lib.IsBuilder T e B b bs w) : B ≤ b := by
  rcases h with h | h
  · exact h.1
  · exact h.1

theorem liesW : LiesB 130 := ⟨by decide, by kernel_rfl⟩

set_option maxHeartbeats 1000000 in
set_option maxRecDepth 100000 in
/-- add: what Write does. -/
theorem add_any (B b : Nat) (bs : List Value) (ad : Addr) (m c : Nat) (news : List Value) (w : World) (h : Lib.IsBuilder 130 5 B b bs w)
    (hl : news.length = m) (hnews : ∀ j u, news[j]? = some u → w.cell? (ad.add j) = some u) (hadB : ad.block ≠ b) (h1 : ∀ u ∈ news, u.oneCell' = true)
    (hlen : bs.length + m ≤ 140737488355328) (hBw : B ≤ w.heap.size) :
    Calls Try.prog 89 #[.pointer (some ⟨b, 0, none⟩), .slice (some ad) m c] w fun e w' => e = .returned (.tuple #[]) ∧ (Lib.BuilderAt 130 5 B b (.pointer (some ⟨b, 0, none⟩)) (bs ++ news) w' ∧ Below B w w') := by
  have cW := Lib.hid (write_any liesW B b bs ad m c news w h hl hnews hadB h1 hlen hBw)
  clear hl hnews h1
  go_enter Try.func89, Try.ntmps89
  go_wp2_with (go_at_call 93; refine cW.out.mono ?_; rintro e w1 ⟨rfl, q1, q2⟩)
  go_end0
  exact ⟨rfl, q1, q2⟩

/-- add of one byte that lies in a new block. -/
theorem add_one (B b : Nat) (bs : List Value) (x : Int) (W : World) (h : Lib.IsBuilder 130 5 B b bs W) (hlen : bs.length + 1 ≤ 140737488355328) :
    Calls Try.prog 89 #[.pointer (some ⟨b, 0, none⟩), .slice (some ⟨W.heap.size, 0, none⟩) 1 1] (W.alloc (.cells #[.int .u8 x] 5)) fun e w' =>
      e = .returned (.tuple #[]) ∧ (Lib.IsBuilder 130 5 B b (bs ++ [.int .u8 x]) w' ∧ Below B W w') := by
  have hlt := ib_lt h
  have hle := ib_le h
  refine (add_any B b bs ⟨W.heap.size, 0, none⟩ 1 1 [.int .u8 x] (W.alloc (.cells #[.int .u8 x] 5)) (ib_alloc h _) rfl ?_ (fun e => by simp at e; omega) (fun u hu => by simp at hu; subst hu; rfl) hlen (by simp; omega)).mono ?_
  · intro j u hj
    have hnew : (W.alloc (.cells #[.int .u8 x] 5)).heap[W.heap.size]? = some (.cells #[.int .u8 x] 5 (0, 0)) := heap_alloc_new W _
    rcases j with _ | j
    · simp at hj; subst hj
      show (W.alloc (.cells #[.int .u8 x] 5)).cell? ⟨W.heap.size, 0, none⟩ = _
      rw [Lib.cell_of_heap hnew]; rfl
    · simp at hj
  · rintro e w' ⟨rfl, q1, q2⟩
    exact ⟨rfl, Or.inr q1, ((Below.refl B W).alloc (by omega) _).trans q2⟩

theorem new_builder (w : World) : Lib.IsBuilder 130 5 w.heap.size w.heap.size (Lib.byteCells []) (w.alloc (.cells #[.pointer none, .slice none 0 0] 130)) := Lib.fresh_isBuilder 130 5 w

theorem cells_snoc (l : List UInt8) (k : Nat) (h : k < l.length) : Lib.byteCells (l.take (k + 1)) = Lib.byteCells (l.take k) ++ [.int .u8 (l[k].toNat : Int)] := by
  rw [List.take_succ_eq_append_getElem h, Lib.byteCells_append]; rfl
theorem data_get (s : ByteArray) (k : Nat) (h : k < s.size) : s.data.toList[k]'(by simpa using h) = s[k] := rfl
theorem data_len (s : ByteArray) : s.data.toList.length = s.size := rfl
theorem le_step (x : Int) (k : Nat) (h0 : 0 ≤ x) : Lib.byteCells (Wd.le x.toNat k) ++ [.int .u8 (x / 2 ^ (8 * k) % 256)] = Lib.byteCells (Wd.le x.toNat (k + 1)) := by
  obtain ⟨v, rfl⟩ := Int.eq_ofNat_of_zero_le h0
  rw [Wd.le, Lib.byteCells_append]
  have e : (256 : Nat) ^ k = 2 ^ (8 * k) := by rw [Nat.pow_mul]
  have e2 : ((v : Int) / 2 ^ (8 * k) % 256) = ((v / 256 ^ k % 256 : Nat) : Int) := by rw [e]; simp
  rw [e2]
  simp [Lib.byteCells]
theorem le_length' (v k : Nat) : (Lib.byteCells (Wd.le v k)).length = k := by rw [Lib.byteCells_length, Wd.le_length]

set_option maxHeartbeats 1000000 in
set_option maxRecDepth 100000 in
theorem put1 (x : Int) (h0 : 0 ≤ x) (h1 : x < 256) (w : World) :
    Calls Try.prog 84 #[.int .u32 x, .int .i64 1] w fun e w' => e = .returned (.tuple #[.string ⟨(Wd.le x.toNat 1).toArray⟩, .int .i64 0]) ∧ Below w.heap.size w w' := by
  have HI := Lib.hid (new_builder w)
  go_enter Try.func84, Try.ntmps84
  go_wp2
  go_loopw [21] (fun i wr => ∃ k : Nat, k ≤ 1 ∧ i = .int .i64 k ∧ Hid (Lib.IsBuilder 130 5 w.heap.size w.heap.size (Lib.byteCells (Wd.le x.toNat k)) wr) ∧ Below w.heap.size w wr) (fun i _ => 1 - (intOf i).toNat)
  case atStart => exact ⟨0, Nat.zero_le _, rfl, HI, (Below.refl _ _).alloc (Nat.le_refl _) _⟩
  case round =>
    obtain ⟨k, hk, rfl, hB, hb⟩ := hrel
    by_cases hlt : k < 1
    · go_wp2_with fail
      refine (add_one w.heap.size w.heap.size _ _ wr hB.out (by rw [le_length']; omega)).mono ?_
      rintro e w1 ⟨rfl, q1, q2⟩
      have q3 := Lib.hid q1
      clear q1 hB
      rw [le_step x k h0] at q3
      have hb' := hb.trans q2
      clear hb q2
      go_wp2
      go_roundw
      case rel => exact ⟨k + 1, by omega, by go_num, q3, hb'⟩
      case measure => simp [intOf]; omega
    · go_wp2_with fail
      refine (string_any w.heap.size w.heap.size _ wr hB.out hb.size).mono ?_
      rintro e w1 ⟨rfl, q2⟩
      go_wp2
      go_ret2
      refine ⟨?_, hb.trans q2⟩
      have : k = 1 := by omega
      subst this
      rfl

set_option maxHeartbeats 1000000 in
set_option maxRecDepth 100000 in
theorem put1_long (x : Int) (h1 : 256 ≤ x) (h2 : x < 4294967296) (w : World) :
    Calls Try.prog 84 #[.int .u32 x, .int .i64 1] w fun e w' => e = .returned (.tuple #[.string ⟨#[]⟩, .int .i64 5]) ∧ w = w' := by
  go_enter Try.func84, Try.ntmps84
  go_wp2
  go_ret2
  exact ⟨rfl, rfl⟩

set_option maxHeartbeats 1000000 in
set_option maxRecDepth 100000 in
theorem put2 (x : Int) (h0 : 0 ≤ x) (h1 : x < 65536) (w : World) :
    Calls Try.prog 84 #[.int .u32 x, .int .i64 2] w fun e w' => e = .returned (.tuple #[.string ⟨(Wd.le x.toNat 2).toArray⟩, .int .i64 0]) ∧ Below w.heap.size w w' := by
  have HI := Lib.hid (new_builder w)
  go_enter Try.func84, Try.ntmps84
  go_wp2
  go_loopw [21] (fun i wr => ∃ k : Nat, k ≤ 2 ∧ i = .int .i64 k ∧ Hid (Lib.IsBuilder 130 5 w.heap.size w.heap.size (Lib.byteCells (Wd.le x.toNat k)) wr) ∧ Below w.heap.size w wr) (fun i _ => 2 - (intOf i).toNat)
  case atStart => exact ⟨0, Nat.zero_le _, rfl, HI, (Below.refl _ _).alloc (Nat.le_refl _) _⟩
  case round =>
    obtain ⟨k, hk, rfl, hB, hb⟩ := hrel
    by_cases hlt : k < 2
    · go_wp2_with fail
      refine (add_one w.heap.size w.heap.size _ _ wr hB.out (by rw [le_length']; omega)).mono ?_
      rintro e w1 ⟨rfl, q1, q2⟩
      have q3 := Lib.hid q1
      clear q1 hB
      rw [le_step x k h0] at q3
      have hb' := hb.trans q2
      clear hb q2
      go_wp2
      go_roundw
      case rel => exact ⟨k + 1, by omega, by go_num, q3, hb'⟩
      case measure => simp [intOf]; omega
    · go_wp2_with fail
      refine (string_any w.heap.size w.heap.size _ wr hB.out hb.size).mono ?_
      rintro e w1 ⟨rfl, q2⟩
      go_wp2
      go_ret2
      refine ⟨?_, hb.trans q2⟩
      have : k = 2 := by omega
      subst this
      rfl

set_option maxHeartbeats 1000000 in
set_option maxRecDepth 100000 in
theorem put2_long (x : Int) (h1 : 65536 ≤ x) (h2 : x < 4294967296) (w : World) :
    Calls Try.prog 84 #[.int .u32 x, .int .i64 2] w fun e w' => e = .returned (.tuple #[.string ⟨#[]⟩, .int .i64 5]) ∧ w = w' := by
  go_enter Try.func84, Try.ntmps84
  go_wp2
  go_ret2
  exact ⟨rfl, rfl⟩

set_option maxHeartbeats 1000000 in
set_option maxRecDepth 100000 in
theorem put3 (x : Int) (h0 : 0 ≤ x) (h1 : x < 16777216) (w : World) :
    Calls Try.prog 84 #[.int .u32 x, .int .i64 3] w fun e w' => e = .returned (.tuple #[.string ⟨(Wd.le x.toNat 3).toArray⟩, .int .i64 0]) ∧ Below w.heap.size w w' := by
  have HI := Lib.hid (new_builder w)
  go_enter Try.func84, Try.ntmps84
  go_wp2
  go_loopw [21] (fun i wr => ∃ k : Nat, k ≤ 3 ∧ i = .int .i64 k ∧ Hid (Lib.IsBuilder 130 5 w.heap.size w.heap.size (Lib.byteCells (Wd.le x.toNat k)) wr) ∧ Below w.heap.size w wr) (fun i _ => 3 - (intOf i).toNat)
  case atStart => exact ⟨0, Nat.zero_le _, rfl, HI, (Below.refl _ _).alloc (Nat.le_refl _) _⟩
  case round =>
    obtain ⟨k, hk, rfl, hB, hb⟩ := hrel
    by_cases hlt : k < 3
    · go_wp2_with fail
      refine (add_one w.heap.size w.heap.size _ _ wr hB.out (by rw [le_length']; omega)).mono ?_
      rintro e w1 ⟨rfl, q1, q2⟩
      have q3 := Lib.hid q1
      clear q1 hB
      rw [le_step x k h0] at q3
      have hb' := hb.trans q2
      clear hb q2
      go_wp2
      go_roundw
      case rel => exact ⟨k + 1, by omega, by go_num, q3, hb'⟩
      case measure => simp [intOf]; omega
    · go_wp2_with fail
      refine (string_any w.heap.size w.heap.size _ wr hB.out hb.size).mono ?_
      rintro e w1 ⟨rfl, q2⟩
      go_wp2
      go_ret2
      refine ⟨?_, hb.trans q2⟩
      have : k = 3 := by omega
      subst this
      rfl

set_option maxHeartbeats 1000000 in
set_option maxRecDepth 100000 in
theorem put3_long (x : Int) (h1 : 16777216 ≤ x) (h2 : x < 4294967296) (w : World) :
    Calls Try.prog 84 #[.int .u32 x, .int .i64 3] w fun e w' => e = .returned (.tuple #[.string ⟨#[]⟩, .int .i64 5]) ∧ w = w' := by
  go_enter Try.func84, Try.ntmps84
  go_wp2
  go_ret2
  exact ⟨rfl, rfl⟩

set_option maxHeartbeats 1000000 in
set_option maxRecDepth 100000 in
theorem put4 (x : Int) (h0 : 0 ≤ x) (h1 : x < 4294967296) (w : World) :
    Calls Try.prog 84 #[.int .u32 x, .int .i64 4] w fun e w' => e = .returned (.tuple #[.string ⟨(Wd.le x.toNat 4).toArray⟩, .int .i64 0]) ∧ Below w.heap.size w w' := by
  have HI := Lib.hid (new_builder w)
  go_enter Try.func84, Try.ntmps84
  go_wp2
  go_loopw [21] (fun i wr => ∃ k : Nat, k ≤ 4 ∧ i = .int .i64 k ∧ Hid (Lib.IsBuilder 130 5 w.heap.size w.heap.size (Lib.byteCells (Wd.le x.toNat k)) wr) ∧ Below w.heap.size w wr) (fun i _ => 4 - (intOf i).toNat)
  case atStart => exact ⟨0, Nat.zero_le _, rfl, HI, (Below.refl _ _).alloc (Nat.le_refl _) _⟩
  case round =>
    obtain ⟨k, hk, rfl, hB, hb⟩ := hrel
    by_cases hlt : k < 4
    · go_wp2_with fail
      refine (add_one w.heap.size w.heap.size _ _ wr hB.out (by rw [le_length']; omega)).mono ?_
      rintro e w1 ⟨rfl, q1, q2⟩
      have q3 := Lib.hid q1
      clear q1 hB
      rw [le_step x k h0] at q3
      have hb' := hb.trans q2
      clear hb q2
      go_wp2
      go_roundw
      case rel => exact ⟨k + 1, by omega, by go_num, q3, hb'⟩
      case measure => simp [intOf]; omega
    · go_wp2_with fail
      refine (string_any w.heap.size w.heap.size _ wr hB.out hb.size).mono ?_
      rintro e w1 ⟨rfl, q2⟩
      go_wp2
      go_ret2
      refine ⟨?_, hb.trans q2⟩
      have : k = 4 := by omega
      subst this
      rfl

set_option maxHeartbeats 1000000 in
theorem put_arg (x n : Int) (h : n < 1 ∨ 4 < n) (w : World) :
    Calls Try.prog 84 #[.int .u32 x, .int .i64 n] w fun e w' => e = .returned (.tuple #[.string ⟨#[]⟩, .int .i64 2]) ∧ w = w' := by
  by_cases h1 : n < 1
  · clear h
    go_enter Try.func84, Try.ntmps84
    go_wp2
    go_ret2
    exact ⟨rfl, rfl⟩
  · have h2 : 4 < n := by omega
    clear h
    go_enter Try.func84, Try.ntmps84
    go_wp2
    go_ret2
    exact ⟨rfl, rfl⟩

/-- Put, whatever it is called with. -/
def putS (x n : Int) : ByteArray := ⟨(Wd.putL x.toNat n).toArray⟩
def putE (x n : Int) : Int := Wd.putE x.toNat n

theorem put_any (x n : Int) (h0 : 0 ≤ x) (h1 : x < 4294967296) (w : World) :
    Calls Try.prog 84 #[.int .u32 x, .int .i64 n] w fun e w' => e = .returned (.tuple #[.string (putS x n), .int .i64 (putE x n)]) ∧ Below w.heap.size w w' := by
  by_cases ha : n < 1 ∨ 4 < n
  · have e1 : putE x n = 2 := by unfold putE Wd.putE; rw [if_pos ha]
    have e2 : putS x n = ⟨#[]⟩ := by unfold putS Wd.putL Wd.putE; rw [if_pos ha, if_neg (by decide)]
    rw [e1, e2]
    refine (put_arg x n ha w).mono ?_
    rintro e w' ⟨rfl, rfl⟩
    exact ⟨rfl, Below.refl _ _⟩
  · have hn : n = 1 ∨ n = 2 ∨ n = 3 ∨ n = 4 := by omega
    rcases hn with rfl | rfl | rfl | rfl
    · by_cases hl : 256 ≤ x
      · have e1 : putE x 1 = 5 := by unfold putE Wd.putE; rw [if_neg (by omega), if_pos (by show 256 ≤ x.toNat; omega)]
        have e2 : putS x 1 = ⟨#[]⟩ := by
          have : Wd.putE x.toNat 1 = 5 := e1
          unfold putS Wd.putL; rw [this, if_neg (by decide)]
        rw [e1, e2]
        refine (put1_long x hl h1 w).mono ?_
        rintro e w' ⟨rfl, rfl⟩
        exact ⟨rfl, Below.refl _ _⟩
      · have e1 : putE x 1 = 0 := by unfold putE Wd.putE; rw [if_neg (by omega), if_neg (by show ¬ 256 ≤ x.toNat; omega)]
        have e2 : putS x 1 = ⟨(Wd.le x.toNat 1).toArray⟩ := by
          have : Wd.putE x.toNat 1 = 0 := e1
          unfold putS Wd.putL; rw [this, if_pos rfl]; rfl
        rw [e1, e2]
        exact put1 x h0 (by omega) w
    · by_cases hl : 65536 ≤ x
      · have e1 : putE x 2 = 5 := by unfold putE Wd.putE; rw [if_neg (by omega), if_pos (by show 65536 ≤ x.toNat; omega)]
        have e2 : putS x 2 = ⟨#[]⟩ := by
          have : Wd.putE x.toNat 2 = 5 := e1
          unfold putS Wd.putL; rw [this, if_neg (by decide)]
        rw [e1, e2]
        refine (put2_long x hl h1 w).mono ?_
        rintro e w' ⟨rfl, rfl⟩
        exact ⟨rfl, Below.refl _ _⟩
      · have e1 : putE x 2 = 0 := by unfold putE Wd.putE; rw [if_neg (by omega), if_neg (by show ¬ 65536 ≤ x.toNat; omega)]
        have e2 : putS x 2 = ⟨(Wd.le x.toNat 2).toArray⟩ := by
          have : Wd.putE x.toNat 2 = 0 := e1
          unfold putS Wd.putL; rw [this, if_pos rfl]; rfl
        rw [e1, e2]
        exact put2 x h0 (by omega) w
    · by_cases hl : 16777216 ≤ x
      · have e1 : putE x 3 = 5 := by unfold putE Wd.putE; rw [if_neg (by omega), if_pos (by show 16777216 ≤ x.toNat; omega)]
        have e2 : putS x 3 = ⟨#[]⟩ := by
          have : Wd.putE x.toNat 3 = 5 := e1
          unfold putS Wd.putL; rw [this, if_neg (by decide)]
        rw [e1, e2]
        refine (put3_long x hl h1 w).mono ?_
        rintro e w' ⟨rfl, rfl⟩
        exact ⟨rfl, Below.refl _ _⟩
      · have e1 : putE x 3 = 0 := by unfold putE Wd.putE; rw [if_neg (by omega), if_neg (by show ¬ 16777216 ≤ x.toNat; omega)]
        have e2 : putS x 3 = ⟨(Wd.le x.toNat 3).toArray⟩ := by
          have : Wd.putE x.toNat 3 = 0 := e1
          unfold putS Wd.putL; rw [this, if_pos rfl]; rfl
        rw [e1, e2]
        exact put3 x h0 (by omega) w
    · have e1 : putE x 4 = 0 := by unfold putE Wd.putE; rw [if_neg (by omega), if_neg (by show ¬ 4294967296 ≤ x.toNat; omega)]
      have e2 : putS x 4 = ⟨(Wd.le x.toNat 4).toArray⟩ := by
        have : Wd.putE x.toNat 4 = 0 := e1
        unfold putS Wd.putL; rw [this, if_pos rfl]; rfl
      rw [e1, e2]
      exact put4 x h0 (by omega) w

theorem putS_size (x n : Int) : (putS x n).size ≤ 4 := by
  show (Wd.putL x.toNat n).toArray.size ≤ 4
  unfold Wd.putL
  split
  · rename_i h
    unfold Wd.putE at h
    split at h
    · omega
    · simp [Wd.le_length]; omega
  · simp

end Go.Proofs.Ytbpdoiikleaidaa
end
