/- Some texts of one proof, one behind the other; each has its own head below. -/
import Derived.Test.YtbpdoiikleaidaaX07
import Derived.Test.YtbpdoiikleaidaaX05
/- What strings.Builder's WriteString does, at a builder that the call itself has made. -/
section
namespace Go.Proofs.Ytbpdoiikleaidaa
open Go.RowKit

section
variable {T : TypeId}
set_option maxHeartbeats 2000000 in
set_option maxRecDepth 100000 in
theorem writes_any (hT : LiesB T) (B b : Nat) (bs : List Value) (s : ByteArray) (w : World) (h : Lib.IsBuilder T 5 B b bs w) (hlen : bs.length + s.size ≤ 140737488355328) (hBw : B ≤ w.heap.size) :
    Calls Try.prog 35 #[.pointer (some ⟨b, 0, none⟩), .string s] w fun e w' => e = .returned (.tuple #[.int .i64 s.size, .nilIface]) ∧ (Lib.BuilderAt T 5 B b (.pointer (some ⟨b, 0, none⟩)) (bs ++ Lib.byteCells s.data.toList) w' ∧ Below B w w') := by
  obtain ⟨i0, hi, hz0, hz1, hz2⟩ := info_parts infoByte
  have cC := check_any hT B b bs w h
  clear h
  go_enter Try.func35, Try.ntmps35
  go_wp2_with (go_at_call 55; refine cC.mono ?_)
  rintro e w1 ⟨rfl, h1', hb1⟩
  clear cC
  obtain ⟨hB, v, hbk, hown, hne⟩ := h1'
  have c0 : w1.cell? ⟨b, 0, none⟩ = some (.pointer (some ⟨b, 0, none⟩)) := by rw [Lib.cell_of_heap hbk]; rfl
  have c1 : w1.cell? ⟨b, 1, none⟩ = some v := by rw [Lib.cell_of_heap hbk]; rfl
  go_wp2_with (at_builtin; refine Lib.wpList_append_own_string _ rfl _ _ 52 9 rfl B 5 i0 Try.underlying52 Try.underlying9 hi hz0 hz1 hz2 _ _ _ rfl hown s rfl ?c3 ?c4 ?c5 ?_)
  case c3 => unfold maxLen; omega
  case c4 => omega
  case c5 => have := hb1.size; omega
  intro v' w2 hown' hgrow _
  have hlt : b < w1.heap.size := lt_of_heap hbk
  have hb2 : w2.heap[b]? = some (.cells #[.pointer (some ⟨b, 0, none⟩), v] T (0, 0)) := by
    rw [hgrow.block b hlt (fun e => hne e.symm)]
    exact hbk
  have d0 : w2.cell? ⟨b, 0, none⟩ = some (.pointer (some ⟨b, 0, none⟩)) := by rw [Lib.cell_of_heap hb2]; rfl
  have d1 : w2.cell? ⟨b, 1, none⟩ = some v := by rw [Lib.cell_of_heap hb2]; rfl
  have f1 : w2.frozen? ⟨b, 1, none⟩ = false := Lib.frozen_of_heap hb2 1
  obtain ⟨ao, n', cap, rfl⟩ : ∃ ao n' cap, v' = .slice ao n' cap := by
    rcases hown'.2 with ⟨hv, _⟩ | ⟨g, cap, cur, hv, _⟩
    · exact ⟨_, _, _, hv⟩
    · exact ⟨_, _, _, hv⟩
  have hl : (Lib.byteCells s.data.toList).length = s.size := by rw [Lib.byteCells_length]; rfl
  go_wp2
  go_ret2
  refine ⟨rfl, ?_, ?_⟩
  · exact Lib.BuilderAt.put (T := T) (e := 5) hB hb2 (bs' := bs ++ Lib.byteCells s.data.toList) (by rw [List.length_append, hl]; exact hown') hT.1
  · exact (hb1.grown hgrow (by have := hb1.size; omega) (fun k hk => (hown.lt k hk).1)).setCell (p := ⟨b, 1, none⟩) hB _
end
end Go.Proofs.Ytbpdoiikleaidaa
end

/- The program's package pack: a number, a text and a list of texts as bytes. -/
section
set_option linter.unusedVariables false
namespace Go.Proofs.Ytbpdoiikleaidaa
open Go Go.RowKit

theorem liesP : LiesB 54 := ⟨by decide, by kernel_rfl⟩
theorem ib_kept {T e : TypeId} {B b : Nat} {bs : List Value} {w w' : World} (h : Lib.IsBuilder T e B b bs w) (hb : Below w.heap.size w w') : Lib.IsBuilder T e B b bs w' := by
  have key : ∀ p, Lib.BuilderAt T e B b p bs w → Lib.BuilderAt T e B b p bs w' := by
    rintro p ⟨hB, v, hbk, hown, hne⟩
    refine ⟨hB, v, (hb.block b (lt_of_heap hbk)).trans hbk, ⟨hown.1, ?_⟩, hne⟩
    rcases hown.2 with h0 | ⟨g, cap, cur, hv, hBg, hg, r⟩
    · exact .inl h0
    · exact .inr ⟨g, cap, cur, hv, hBg, (hb.block g (lt_of_heap hg)).trans hg, r⟩
  rcases h with h | h
  · exact Or.inl (key _ h)
  · exact Or.inr (key _ h)

set_option maxRecDepth 100000 in
theorem pnum_any (x n : Int) (w : World) (h0 : 0 ≤ x) (h1 : x < 4294967296) : Calls Try.prog 77 #[.int .u32 x, .int .i64 n] w fun e w' => e = .returned (.tuple #[.string (numS x n), .int .i64 (numE x n)]) ∧ Below w.heap.size w w' := by
  have HP : Hid (Calls Try.prog 84 #[.int .u32 x, .int .i64 n] w fun e w' => e = .returned (.tuple #[.string (numS x n), .int .i64 (numE x n)]) ∧ Below w.heap.size w w') := Lib.hid (put_any x n h0 h1 w)
  clear h0 h1
  go_enter Try.func77, Try.ntmps77
  go_wp2_with fail
  refine HP.out.mono ?_; rintro e w1 ⟨rfl, q⟩
  have HQ := Lib.hid q
  clear q HP
  go_wp2
  go_ret2
  exact ⟨rfl, HQ.out⟩
set_option maxRecDepth 100000 in
theorem count_any (k : Nat) (hk : k < 65536) (w : World) : Calls Try.prog 76 #[.int .i64 k] w fun e w' => e = .returned (.string (tx (Wd.le k 2))) ∧ Below w.heap.size w w' := by
  have hp := pnum_any (k : Int) 2 w (by omega) (by omega)
  have hn1 : numE (k : Int) 2 = 0 := by unfold numE Wd.putE; rw [if_neg (by decide), if_neg]; simp; omega
  have hn2 : numS (k : Int) 2 = tx (Wd.le k 2) := by
    have : Wd.putE ((k : Int)).toNat 2 = 0 := hn1
    unfold numS Wd.putL; rw [this, if_pos rfl]; simp
  rw [hn1, hn2] at hp
  have HP := Lib.hid hp
  have hki : (k : Int) < 65536 := by omega
  clear hn1 hn2 hp hk
  go_enter Try.func76, Try.ntmps76
  go_wp2_with fail
  refine HP.out.mono ?_; rintro e w1 ⟨rfl, q⟩
  have HQ := Lib.hid q
  clear q HP
  go_wp2
  go_ret
  exact ⟨rfl, HQ.out⟩

set_option maxHeartbeats 1000000 in
set_option maxRecDepth 100000 in
theorem ptext_any (s : ByteArray) (hs : s.size ≤ 140737488355328) (w : World) :
    Calls Try.prog 56 #[.string s] w fun e w' => e = .returned (.tuple #[.string (txtS s), .int .i64 (Pk.txtE (by' s))]) ∧ Below w.heap.size w w' := by
  by_cases h : 65535 < s.size
  · have e1 : Pk.txtE (by' s) = 5 := by unfold Pk.txtE; rw [by_length, if_pos h]
    have e2 : txtS s = tx [] := by unfold txtS; rw [e1, if_neg (by decide)]
    rw [e1, e2]
    have h' : (65535 : Int) < (s.size : Int) := by omega
    clear e1 e2 h hs
    go_enter Try.func56, Try.ntmps56
    go_wp2
    go_ret2
    exact ⟨rfl, Below.refl _ _⟩
  · have e1 : Pk.txtE (by' s) = 0 := by unfold Pk.txtE; rw [by_length, if_neg h]
    have e2 : txtS s = tx (Wd.le s.size 2) ++ s := by
      unfold txtS
      rw [e1, if_pos rfl]
      have : s = tx (by' s) := (tx_by s).symm
      conv => rhs; rw [this]
      rw [tx_append, tx_size]
      rfl
    rw [e1, e2]
    have HC := Lib.hid (fun W => count_any s.size (by omega) W)
    have h' : (s.size : Int) ≤ 65535 := by omega
    have hz : (tx (Wd.le s.size 2)).size = 2 := by rw [tx_size, Wd.le_length]
    obtain ⟨T, hT⟩ : ∃ T, T = tx (Wd.le s.size 2) := ⟨_, rfl⟩
    rw [← hT] at HC hz ⊢
    have hzi : (T.size : Int) ≤ 2 := by omega
    clear e1 e2 h hT hz hs
    go_enter Try.func56, Try.ntmps56
    go_wp2_with fail
    refine (HC.out _).mono ?_; rintro e w1 ⟨rfl, q⟩
    have HQ := Lib.hid q
    clear q HC
    go_wp2
    go_ret2
    exact ⟨rfl, HQ.out⟩

end Go.Proofs.Ytbpdoiikleaidaa
end
