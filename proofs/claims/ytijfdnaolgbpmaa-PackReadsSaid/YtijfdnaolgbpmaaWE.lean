/- What package word's Put does, for whatever it is called with. -/
import Derived.Test.YtijfdnaolgbpmaaBA
import Derived.Test.YtijfdnaolgbpmaaWN
import Derived.LoopTactic
import Derived.Outline
import Derived.Lib.BufferWrite
import Derived.Deep.QuietTactic
import Derived.BigQuiet
import Derived.Laws.Shifts
import Derived.Laws.BitsAllLaws
namespace Go.Proofs.Ytijfdnaolgbpmaa
open Go.RowKit

theorem bat_alloc {T e : TypeId} {B b : Nat} {p : Value} {bs : List Value} {w : World} (h : Lib.BuilderAt T e B b p bs w) (o : Obj) : Lib.BuilderAt T e B b p bs (w.alloc o) := by
  obtain ⟨hB, v, hb, hown, hne⟩ := h
  exact ⟨hB, v, (Lib.alloc_old w o b (lt_of_heap hb)).trans hb, hown.alloc o, hne⟩
theorem ib_alloc {T e : TypeId} {B b : Nat} {bs : List Value} {w : World} (h : Lib.IsBuilder T e B b bs w) (o : Obj) : Lib.IsBuilder T e B b bs (w.alloc o) := by
  rcases h with h | h
  · exact Or.inl (bat_alloc h o)
  · exact Or.inr (bat_alloc h o)
theorem ib_lt {T e : TypeId} {B b : Nat} {bs : List Value} {w : World} (h : Lib.IsBuilder T e B b bs w) : b < w.heap.size := by
  rcases h with h | h
  · exact h.lt
  · exact h.lt
theorem ib_le {T e : TypeId} {B b : Nat} {bs : List Value} {w : World} (h : Lib.IsBuilder T e B b bs w) : B ≤ b := by
  rcases h with h | h
  · exact h.1
  · exact h.1

theorem liesW : LiesB 74 := ⟨by decide, by kernel_rfl⟩

set_option maxHeartbeats 1000000 in
set_option maxRecDepth 100000 in
/-- add: what Write does. -/
theorem add_any (B b : Nat) (bs : List Value) (ad : Addr) (m c : Nat) (news : List Value) (w : World) (h : Lib.IsBuilder 74 5 B b bs w)
    (hl : news.length = m) (hnews : ∀ j u, news[j]? = some u → w.cell? (ad.add j) = some u) (hadB : ad.block ≠ b) (h1 : ∀ u ∈ news, u.oneCell' = true)
    (hlen : bs.length + m ≤ 140737488355328) (hBw : B ≤ w.heap.size) :
    Calls Try.prog 46 #[.pointer (some ⟨b, 0, none⟩), .slice (some ad) m c] w fun e w' => e = .returned (.tuple #[]) ∧ (Lib.BuilderAt 74 5 B b (.pointer (some ⟨b, 0, none⟩)) (bs ++ news) w' ∧ Below B w w') := by
  have cW := Lib.hid (write_any liesW B b bs ad m c news w h hl hnews hadB h1 hlen hBw)
  clear hl hnews h1
  go_enter Try.func46, Try.ntmps46
  go_wp2_with (go_at_call 51; refine cW.out.mono ?_; rintro e w1 ⟨rfl, q1, q2⟩)
  go_end0
  exact ⟨rfl, q1, q2⟩

/-- add of one byte that lies in a new block. -/
theorem add_one (B b : Nat) (bs : List Value) (x : Int) (W : World) (h : Lib.IsBuilder 74 5 B b bs W) (hlen : bs.length + 1 ≤ 140737488355328) :
    Calls Try.prog 46 #[.pointer (some ⟨b, 0, none⟩), .slice (some ⟨W.heap.size, 0, none⟩) 1 1] (W.alloc (.cells #[.int .u8 x] 5)) fun e w' =>
      e = .returned (.tuple #[]) ∧ (Lib.IsBuilder 74 5 B b (bs ++ [.int .u8 x]) w' ∧ Below B W w') := by
  have hlt := ib_lt h
  have hle := ib_le h
  refine (add_any B b bs ⟨W.heap.size, 0, none⟩ 1 1 [.int .u8 x] (W.alloc (.cells #[.int .u8 x] 5)) (ib_alloc h _) rfl ?_ (fun e => by simp at e; omega) (fun u hu => by simp at hu; subst hu; rfl) hlen (by simp; omega)).mono ?_
  · intro j u hj
    have hnew : (W.alloc (.cells #[.int .u8 x] 5)).heap[W.heap.size]? = some (.cells #[.int .u8 x] 5 (0, 0)) := heap_alloc_new W _
    rcases j with _ | j
    · simp at hj; subst hj
      show (W.alloc (.cells #[.int .u8 x] 5)).cell? ⟨W.heap.size, 0, none⟩ = _
      rw [Lib.cell_of_heap hnew]; rfl
    · simp at hj
  · rintro e w' ⟨rfl, q1, q2⟩
    exact ⟨rfl, Or.inr q1, ((Below.refl B W).alloc (by omega) _).trans q2⟩

theorem new_builder (w : World) : Lib.IsBuilder 74 5 w.heap.size w.heap.size (Lib.byteCells []) (w.alloc (.cells #[.pointer none, .slice none 0 0] 74)) := Lib.fresh_isBuilder 74 5 w

theorem cells_snoc (l : List UInt8) (k : Nat) (h : k < l.length) : Lib.byteCells (l.take (k + 1)) = Lib.byteCells (l.take k) ++ [.int .u8 (l[k].toNat : Int)] := by
  rw [List.take_succ_eq_append_getElem h, Lib.byteCells_append]; rfl
theorem data_get (s : ByteArray) (k : Nat) (h : k < s.size) : s.data.toList[k]'(by simpa using h) = s[k] := rfl
theorem data_len (s : ByteArray) : s.data.toList.length = s.size := rfl
theorem le_step (x : Int) (k : Nat) (h0 : 0 ≤ x) : Lib.byteCells (Wd.le x.toNat k) ++ [.int .u8 (x / 2 ^ (8 * k) % 256)] = Lib.byteCells (Wd.le x.toNat (k + 1)) := by
  obtain ⟨v, rfl⟩ := Int.eq_ofNat_of_zero_le h0
  rw [Wd.le, Lib.byteCells_append]
  have e : (256 : Nat) ^ k = 2 ^ (8 * k) := by rw [Nat.pow_mul]
  have e2 : ((v : Int) / 2 ^ (8 * k) % 256) = ((v / 256 ^ k % 256 : Nat) : Int) := by rw [e]; simp
  rw [e2]
  simp [Lib.byteCells]
theorem le_length' (v k : Nat) : (Lib.byteCells (Wd.le v k)).length = k := by rw [Lib.byteCells_length, Wd.le_length]

set_option maxHeartbeats 1000000 in
set_option maxRecDepth 100000 in
theorem put1 (x : Int) (h0 : 0 ≤ x) (h1 : x < 256) (w : World) :
    Calls Try.prog 29 #[.int .u32 x, .int .i64 1] w fun e w' => e = .returned (.tuple #[.string ⟨(Wd.le x.toNat 1).toArray⟩, .int .i64 0]) ∧ Below w.heap.size w w' := by
  have HI := Lib.hid (new_builder w)
  go_enter Try.func29, Try.ntmps29
  go_wp2
  go_loopw [21] (fun i wr => ∃ k : Nat, k ≤ 1 ∧ i = .int .i64 k ∧ Hid (Lib.IsBuilder 74 5 w.heap.size w.heap.size (Lib.byteCells (Wd.le x.toNat k)) wr) ∧ Below w.heap.size w wr) (fun i _ => 1 - (intOf i).toNat)
  case atStart => exact ⟨0, Nat.zero_le _, rfl, HI, (Below.refl _ _).alloc (Nat.le_refl _) _⟩
  case round =>
    obtain ⟨k, hk, rfl, hB, hb⟩ := hrel
    by_cases hlt : k < 1
    · go_wp2_with fail
      refine (add_one w.heap.size w.heap.size _ _ wr hB.out (by rw [le_length']; omega)).mono ?_
      rintro e w1 ⟨rfl, q1, q2⟩
      have q3 := Lib.hid q1
      clear q1 hB
      rw [le_step x k h0] at q3
      have hb' := hb.trans q2
      clear hb q2
      go_wp2
      go_roundw
      case rel => exact ⟨k + 1, by omega, by go_num, q3, hb'⟩
      case measure => simp [intOf]; omega
    · go_wp2_with fail
      refine (string_any w.heap.size w.heap.size _ wr hB.out hb.size).mono ?_
      rintro e w1 ⟨rfl, q2⟩
      go_wp2
      go_ret2
      refine ⟨?_, hb.trans q2⟩
      have : k = 1 := by omega
      subst this
      rfl

set_option maxHeartbeats 1000000 in
set_option maxRecDepth 100000 in
theorem put1_long (x : Int) (h1 : 256 ≤ x) (h2 : x < 4294967296) (w : World) :
    Calls Try.prog 29 #[.int .u32 x, .int .i64 1] w fun e w' => e = .returned (.tuple #[.string ⟨#[]⟩, .int .i64 5]) ∧ w = w' := by
  go_enter Try.func29, Try.ntmps29
  go_wp2
  go_ret2
  exact ⟨rfl, rfl⟩

set_option maxHeartbeats 1000000 in
set_option maxRecDepth 100000 in
theorem put2 (x : Int) (h0 : 0 ≤ x) (h1 : x < 65536) (w : World) :
    Calls Try.prog 29 #[.int .u32 x, .int .i64 2] w fun e w' => e = .returned (.tuple #[.string ⟨(Wd.le x.toNat 2).toArray⟩, .int .i64 0]) ∧ Below w.heap.size w w' := by
  have HI := Lib.hid (new_builder w)
  go_enter Try.func29, Try.ntmps29
  go_wp2
  go_loopw [21] (fun i wr => ∃ k : Nat, k ≤ 2 ∧ i = .int .i64 k ∧ Hid (Lib.IsBuilder 74 5 w.heap.size w.heap.size (Lib.byteCells (Wd.le x.toNat k)) wr) ∧ Below w.heap.size w wr) (fun i _ => 2 - (intOf i).toNat)
  case atStart => exact ⟨0, Nat.zero_le _, rfl, HI, (Below.refl _ _).alloc (Nat.le_refl _) _⟩
  case round =>
    obtain ⟨k, hk, rfl, hB, hb⟩ := hrel
    by_cases hlt : k < 2
    · go_wp2_with fail
      refine (add_one w.heap.size w.heap.size _ _ wr hB.out (by rw [le_length']; omega)).mono ?_
      rintro e w1 ⟨rfl, q1, q2⟩
      have q3 := Lib.hid q1
      clear q1 hB
      rw [le_step x k h0] at q3
      have hb' := hb.trans q2
      clear hb q2
      go_wp2
      go_roundw
      case rel => exact ⟨k + 1, by omega, by go_num, q3, hb'⟩
      case measure => simp [intOf]; omega
    · go_wp2_with fail
      refine (string_any w.heap.size w.heap.size _ wr hB.out hb.size).mono ?_
      rintro e w1 ⟨rfl, q2⟩
      go_wp2
      go_ret2
      refine ⟨?_, hb.trans q2⟩
      have : k = 2 := by omega
      subst this
      rfl

set_option maxHeartbeats 1000000 in
set_option maxRecDepth 100000 in
theorem put2_long (x : Int) (h1 : 65536 ≤ x) (h2 : x < 4294967296) (w : World) :
    Calls Try.prog 29 #[.int .u32 x, .int .i64 2] w fun e w' => e = .returned (.tuple #[.string ⟨#[]⟩, .int .i64 5]) ∧ w = w' := by
  go_enter Try.func29, Try.ntmps29
  go_wp2
  go_ret2
  exact ⟨rfl, rfl⟩

set_option maxHeartbeats 1000000 in
set_option maxRecDepth 100000 in
theorem put3 (x : Int) (h0 : 0 ≤ x) (h1 : x < 16777216) (w : World) :
    Calls Try.prog 29 #[.int .u32 x, .int .i64 3] w fun e w' => e = .returned (.tuple #[.string ⟨(Wd.le x.toNat 3).toArray⟩, .int .i64 0]) ∧ Below w.heap.size w w' := by
  have HI := Lib.hid (new_builder w)
  go_enter Try.func29, Try.ntmps29
  go_wp2
  go_loopw [21] (fun i wr => ∃ k : Nat, k ≤ 3 ∧ i = .int .i64 k ∧ Hid (Lib.IsBuilder 74 5 w.heap.size w.heap.size (Lib.byteCells (Wd.le x.toNat k)) wr) ∧ Below w.heap.size w wr) (fun i _ => 3 - (intOf i).toNat)
  case atStart => exact ⟨0, Nat.zero_le _, rfl, HI, (Below.refl _ _).alloc (Nat.le_refl _) _⟩
  case round =>
    obtain ⟨k, hk, rfl, hB, hb⟩ := hrel
    by_cases hlt : k < 3
    · go_wp2_with fail
      refine (add_one w.heap.size w.heap.size _ _ wr hB.out (by rw [le_length']; omega)).mono ?_
      rintro e w1 ⟨rfl, q1, q2⟩
      have q3 := Lib.hid q1
      clear q1 hB
      rw [le_step x k h0] at q3
      have hb' := hb.trans q2
      clear hb q2
      go_wp2
      go_roundw
      case rel => exact ⟨k + 1, by omega, by go_num, q3, hb'⟩
      case measure => simp [intOf]; omega
    · go_wp2_with fail
      refine (string_any w.heap.size w.heap.size _ wr hB.out hb.size).mono ?_
      rintro e w1 ⟨rfl, q2⟩
      go_wp2
      go_ret2
      refine ⟨?_, hb.trans q2⟩
      have : k = 3 := by omega
      subst this
      rfl

set_option maxHeartbeats 1000000 in
set_option maxRecDepth 100000 in
theorem put3_long (x : Int) (h1 : 16777216 ≤ x) (h2 : x < 4294967296) (w : World) :
    Calls Try.prog 29 #[.int .u32 x, .int .i64 3] w fun e w' => e = .returned (.tuple #[.string ⟨#[]⟩, .int .i64 5]) ∧ w = w' := by
  go_enter Try.func29, Try.ntmps29
  go_wp2
  go_ret2
  exact ⟨rfl, rfl⟩

set_option maxHeartbeats 1000000 in
set_option maxRecDepth 100000 in
theorem put4 (x : Int) (h0 : 0 ≤ x) (h1 : x < 4294967296) (w : World) :
    Calls Try.prog 29 #[.int .u32 x, .int .i64 4] w fun e w' => e = .returned (.tuple #[.string ⟨(Wd.le x.toNat 4).toArray⟩, .int .i64 0]) ∧ Below w.heap.size w w' := by
  have HI := Lib.hid (new_builder w)
  go_enter Try.func29, Try.ntmps29
  go_wp2
  go_loopw [21] (fun i wr => ∃ k : Nat, k ≤ 4 ∧ i = .int .i64 k ∧ Hid (Lib.IsBuilder 74 5 w.heap.size w.heap.size (Lib.byteCells (Wd.le x.toNat k)) wr) ∧ Below w.heap.size w wr) (fun i _ => 4 - (intOf i).toNat)
  case atStart => exact ⟨0, Nat.zero_le _, rfl, HI, (Below.refl _ _).alloc (Nat.le_refl _) _⟩
  case round =>
    obtain ⟨k, hk, rfl, hB, hb⟩ := hrel
    by_cases hlt : k < 4
    · go_wp2_with fail
      refine (add_one w.heap.size w.heap.size _ _ wr hB.out (by rw [le_length']; omega)).mono ?_
      rintro e w1 ⟨rfl, q1, q2⟩
      have q3 := Lib.hid q1
      clear q1 hB
      rw [le_step x k h0] at q3
      have hb' := hb.trans q2
      clear hb q2
      go_wp2
      go_roundw
      case rel => exact ⟨k + 1, by omega, by go_num, q3, hb'⟩
      case measure => simp [intOf]; omega
    · go_wp2_with fail
      refine (string_any w.heap.size w.heap.size _ wr hB.out hb.size).mono ?_
      rintro e w1 ⟨rfl, q2⟩
      go_wp2
      go_ret2
      refine ⟨?_, hb.trans q2⟩
      have : k = 4 := by omega
      subst this
      rfl

set_option maxHeartbeats 1000000 in
theorem put_arg (x n : Int) (h : n < 1 ∨ 4 < n) (w : World) :
    Calls Try.prog 29 #[.int .u32 x, .int .i64 n] w fun e w' => e = .returned (.tuple #[.string ⟨#[]⟩, .int .i64 2]) ∧ w = w' := by
  by_cases h1 : n < 1
  · clear h
    go_enter Try.func29, Try.ntmps29
    go_wp2
    go_ret2
    exact ⟨rfl, rfl⟩
  · have h2 : 4 < n := by omega
    clear h
    go_enter Try.func29, Try.ntmps29
    go_wp2
    go_ret2
    exact ⟨rfl, rfl⟩

/-- Put, whatever it is called with. -/
def putS (x n : Int) : ByteArray := ⟨(Wd.putL x.toNat n).toArray⟩
def putE (x n : Int) : Int := Wd.putE x.toNat n

theorem put_any (x n : Int) (h0 : 0 ≤ x) (h1 : x < 4294967296) (w : World) :
    Calls Try.prog 29 #[.int .u32 x, .int .i64 n] w fun e w' => e = .returned (.tuple #[.string (putS x n), .int .i64 (putE x n)]) ∧ Below w.heap.size w w' := by
  by_cases ha : n < 1 ∨ 4 < n
  · have e1 : putE x n = 2 := by unfold putE Wd.putE; rw [if_pos ha]
    have e2 : putS x n = ⟨#[]⟩ := by unfold putS Wd.putL Wd.putE; rw [if_pos ha, if_neg (by decide)]
    rw [e1, e2]
    refine (put_arg x n ha w).mono ?_
    rintro e w' ⟨rfl, rfl⟩
    exact ⟨rfl, Below.refl _ _⟩
  · have hn : n = 1 ∨ n = 2 ∨ n = 3 ∨ n = 4 := by omega
    rcases hn with rfl | rfl | rfl | rfl
    · by_cases hl : 256 ≤ x
      · have e1 : putE x 1 = 5 := by unfold putE Wd.putE; rw [if_neg (by omega), if_pos (by show 256 ≤ x.toNat; omega)]
        have e2 : putS x 1 = ⟨#[]⟩ := by
          have : Wd.putE x.toNat 1 = 5 := e1
          unfold putS Wd.putL; rw [this, if_neg (by decide)]
        rw [e1, e2]
        refine (put1_long x hl h1 w).mono ?_
        rintro e w' ⟨rfl, rfl⟩
        exact ⟨rfl, Below.refl _ _⟩
      · have e1 : putE x 1 = 0 := by unfold putE Wd.putE; rw [if_neg (by omega), if_neg (by show ¬ 256 ≤ x.toNat; omega)]
        have e2 : putS x 1 = ⟨(Wd.le x.toNat 1).toArray⟩ := by
          have : Wd.putE x.toNat 1 = 0 := e1
          unfold putS Wd.putL; rw [this, if_pos rfl]; rfl
        rw [e1, e2]
        exact put1 x h0 (by omega) w
    · by_cases hl : 65536 ≤ x
      · have e1 : putE x 2 = 5 := by unfold putE Wd.putE; rw [if_neg (by omega), if_pos (by show 65536 ≤ x.toNat; omega)]
        have e2 : putS x 2 = ⟨#[]⟩ := by
          have : Wd.putE x.toNat 2 = 5 := e1
          unfold putS Wd.putL; rw [this, if_neg (by decide)]
        rw [e1, e2]
        refine (put2_long x hl h1 w).mono ?_
        rintro e w' ⟨rfl, rfl⟩
        exact ⟨rfl, Below.refl _ _⟩
      · have e1 : putE x 2 = 0 := by unfold putE Wd.putE; rw [if_neg (by omega), if_neg (by show ¬ 65536 ≤ x.toNat; omega)]
        have e2 : putS x 2 = ⟨(Wd.le x.toNat 2).toArray⟩ := by
          have : Wd.putE x.toNat 2 = 0 := e1
          unfold putS Wd.putL; rw [this, if_pos rfl]; rfl
        rw [e1, e2]
        exact put2 x h0 (by omega) w
    · by_cases hl : 16777216 ≤ x
      · have e1 : putE x 3 = 5 := by unfold putE Wd.putE; rw [if_neg (by omega), if_pos (by show 16777216 ≤ x.toNat; omega)]
        have e2 : putS x 3 = ⟨#[]⟩ := by
          have : Wd.putE x.toNat 3 = 5 := e1
          unfold putS Wd.putL; rw [this, if_neg (by decide)]
        rw [e1, e2]
        refine (put3_long x hl h1 w).mono ?_
        rintro e w' ⟨rfl, rfl⟩
        exact ⟨rfl, Below.refl _ _⟩
      · have e1 : putE x 3 = 0 := by unfold putE Wd.putE; rw [if_neg (by omega), if_neg (by show ¬ 16777216 ≤ x.toNat; omega)]
        have e2 : putS x 3 = ⟨(Wd.le x.toNat 3).toArray⟩ := by
          have : Wd.putE x.toNat 3 = 0 := e1
          unfold putS Wd.putL; rw [this, if_pos rfl]; rfl
        rw [e1, e2]
        exact put3 x h0 (by omega) w
    · have e1 : putE x 4 = 0 := by unfold putE Wd.putE; rw [if_neg (by omega), if_neg (by show ¬ 4294967296 ≤ x.toNat; omega)]
      have e2 : putS x 4 = ⟨(Wd.le x.toNat 4).toArray⟩ := by
        have : Wd.putE x.toNat 4 = 0 := e1
        unfold putS Wd.putL; rw [this, if_pos rfl]; rfl
      rw [e1, e2]
      exact put4 x h0 (by omega) w

theorem putS_size (x n : Int) : (putS x n).size ≤ 4 := by
  show (Wd.putL x.toNat n).toArray.size ≤ 4
  unfold Wd.putL
  split
  · rename_i h
    unfold Wd.putE at h
    split at h
    · omega
    · simp [Wd.le_length]; omega
  · simp

end Go.Proofs.Ytijfdnaolgbpmaa
