/- Some texts of one proof, one behind the other; each has its own head below. -/
import Derived.Test.YtlnnhgmkibjgmaaDoorX00
import Derived.Lib.Bytealg
import Derived.LoopTactic
import Derived.Outline
import Derived.Lib.BufferWrite
import Derived.Deep.QuietTactic
import Derived.BigQuiet
import Derived.Laws.Shifts
import Derived.Laws.BitsAllLaws
/- Numbers as bytes and digits, and back, as plain functions on lists of bytes. Plain mathematics: no program is named. -/
section
namespace Go.Proofs.YtlnnhgmkibjgmaaDoor.I.Wd

def le (v : Nat) : Nat → List UInt8
  | 0 => []
  | n + 1 => le v n ++ [UInt8.ofNat (v / 256 ^ n)]

def unle : List UInt8 → Nat
  | [] => 0
  | b :: l => b.toNat + 256 * unle l

theorem le_length (v n : Nat) : (le v n).length = n := by
  induction n with
  | zero => rfl
  | succ n ih => simp [le, ih]

theorem unle_append (a b : List UInt8) : unle (a ++ b) = unle a + 256 ^ a.length * unle b := by
  induction a with
  | nil => simp [unle]
  | cons x a ih =>
    simp only [List.cons_append, unle, ih, List.length_cons, Nat.pow_succ]
    rw [Nat.mul_add, ← Nat.mul_assoc, Nat.mul_comm 256 (256 ^ a.length)]
    omega

theorem unle_lt (l : List UInt8) : unle l < 256 ^ l.length := by
  induction l with
  | nil => simp [unle]
  | cons x l ih =>
    simp only [unle, List.length_cons, Nat.pow_succ]
    have := x.toNat_lt
    omega

theorem ofNat_toNat (x : Nat) : (UInt8.ofNat x).toNat = x % 256 := by simp

theorem unle_le (v n : Nat) : unle (le v n) = v % 256 ^ n := by
  induction n with
  | zero => simp [le, unle, Nat.mod_one]
  | succ n ih =>
    rw [le, unle_append, ih, le_length]
    simp only [unle, ofNat_toNat, Nat.mul_zero, Nat.add_zero]
    rw [Nat.pow_succ, Nat.mod_mul]

theorem le_unle (l : List UInt8) : le (unle l) l.length = l := by
  have key : ∀ (n : Nat) (l : List UInt8), l.length = n → le (unle l) n = l := by
    intro n
    induction n with
    | zero => intro l h; have : l = [] := by simpa using h
              subst this; rfl
    | succ n ih =>
      intro l h
      have hne : l ≠ [] := by intro e; subst e; simp at h
      obtain ⟨a, x, rfl⟩ : ∃ a x, l = a ++ [x] := ⟨l.dropLast, l.getLast hne, (List.dropLast_concat_getLast hne).symm⟩
      have ha : a.length = n := by simpa using h
      have hlt := unle_lt a
      rw [ha] at hlt
      have h1 : unle (a ++ [x]) = unle a + 256 ^ n * x.toNat := by rw [unle_append, ha]; simp [unle]
      have h2 : unle (a ++ [x]) / 256 ^ n = x.toNat := by
        rw [h1, Nat.add_mul_div_left _ _ (Nat.pow_pos (by decide)), Nat.div_eq_of_lt hlt]; omega
      have h3 : ∀ m, m ≤ n → le (unle (a ++ [x])) m = le (unle a) m := by
        intro m
        induction m with
        | zero => intro _; rfl
        | succ m ihm =>
          intro hm
          rw [le, le, ihm (by omega)]
          congr 2
          apply UInt8.toNat_inj.1
          rw [ofNat_toNat, ofNat_toNat, h1]
          have e1 : 256 ^ n = 256 ^ m * (256 * 256 ^ (n - m - 1)) := by
            rw [← Nat.pow_succ', ← Nat.pow_add]; congr 1; omega
          rw [e1, Nat.mul_assoc, Nat.add_mul_div_left _ _ (Nat.pow_pos (by decide)), Nat.mul_assoc, Nat.add_mul_mod_self_left]
      rw [le, h3 n (Nat.le_refl _), ih a ha, h2]
      simp
  exact key _ l rfl

/-! digits -/
def digs : List UInt8 := [48, 49, 50, 51, 52, 53, 54, 55, 56, 57, 97, 98, 99, 100, 101, 102]
def hexd (n : Nat) : UInt8 := digs.getD n 0
def dig (c : UInt8) : Nat := if 48 ≤ c.toNat ∧ c.toNat ≤ 57 then c.toNat - 48 else if 97 ≤ c.toNat ∧ c.toNat ≤ 102 then c.toNat - 87 else 16

theorem all_bytes {p : UInt8 → Prop} (h : ∀ n : Fin 256, p (UInt8.ofNat n.val)) (c : UInt8) : p c := by
  have := h ⟨c.toNat, c.toNat_lt⟩
  simpa using this

set_option maxRecDepth 100000 in
theorem dig_index (c : UInt8) : Lib.indexByte digs c = if dig c = 16 then -1 else (dig c : Int) :=
  all_bytes (p := fun c => Lib.indexByte digs c = if dig c = 16 then -1 else (dig c : Int)) (by decide +kernel) c
set_option maxRecDepth 100000 in
theorem hexd_dig (c : UInt8) : dig c ≠ 16 → hexd (dig c) = c :=
  all_bytes (p := fun c => dig c ≠ 16 → hexd (dig c) = c) (by decide +kernel) c
theorem dig_hexd (n : Nat) (h : n < 16) : dig (hexd n) = n := by
  have : ∀ n : Fin 16, dig (hexd n.val) = n.val := by decide
  exact this ⟨n, h⟩
theorem dig_le (c : UInt8) : dig c ≤ 16 := by unfold dig; repeat' split
                                              all_goals omega

def hexL : List UInt8 → List UInt8
  | [] => []
  | b :: l => hexd (b.toNat / 16) :: hexd (b.toNat % 16) :: hexL l

theorem hexL_append (a b : List UInt8) : hexL (a ++ b) = hexL a ++ hexL b := by
  induction a with
  | nil => rfl
  | cons x a ih => simp [hexL, ih]
theorem hexL_length (l : List UInt8) : (hexL l).length = 2 * l.length := by
  induction l with
  | nil => rfl
  | cons x l ih => simp [hexL, ih]; omega

def unhexL : List UInt8 → Option (List UInt8)
  | [] => some []
  | [_] => none
  | h :: l :: r => if dig h = 16 ∨ dig l = 16 then none else (unhexL r).map fun t => UInt8.ofNat (16 * dig h + dig l) :: t

theorem unhexL_hexL (l : List UInt8) : unhexL (hexL l) = some l := by
  induction l with
  | nil => rfl
  | cons x l ih =>
    have hx := x.toNat_lt
    rw [hexL, unhexL, dig_hexd _ (by omega), dig_hexd _ (by omega), if_neg (by omega), ih]
    have : 16 * (x.toNat / 16) + x.toNat % 16 = x.toNat := by omega
    simp [this]

theorem hexL_unhexL : ∀ (d u : List UInt8), unhexL d = some u → hexL u = d := by
  intro d
  induction d using unhexL.induct with
  | case1 => intro u h; simp [unhexL] at h; subst h; rfl
  | case2 => intro u h; simp [unhexL] at h
  | case3 h l r hbad => intro u hh; rw [unhexL, if_pos hbad] at hh; cases hh
  | case4 h l r hok ih =>
    intro u hh
    rw [unhexL, if_neg hok] at hh
    obtain ⟨t, ht, rfl⟩ := Option.map_eq_some_iff.1 hh
    have h1 := dig_le h
    have h2 := dig_le l
    have h3 : (UInt8.ofNat (16 * dig h + dig l)).toNat = 16 * dig h + dig l := by rw [ofNat_toNat]; omega
    rw [hexL, ih t ht, h3, show (16 * dig h + dig l) / 16 = dig h by omega, show (16 * dig h + dig l) % 16 = dig l by omega, hexd_dig h (by omega), hexd_dig l (by omega)]

theorem unhexL_even : ∀ (d u : List UInt8), unhexL d = some u → d.length = 2 * u.length := by
  intro d u h
  rw [← hexL_unhexL d u h, hexL_length]

/-! what the functions hand back -/
def putE (v : Nat) (n : Int) : Int := if n < 1 ∨ 4 < n then 2 else if 256 ^ n.toNat ≤ v then 5 else 0
def putL (v : Nat) (n : Int) : List UInt8 := if putE v n = 0 then le v n.toNat else []
def putHE (v : Nat) (n : Int) : Int := if ¬ n = 2 ∧ ¬ n = 4 then 2 else putE v n
def putHL (v : Nat) (n : Int) : List UInt8 := if ¬ n = 2 ∧ ¬ n = 4 then [] else (putL v n).reverse
def getE (l : List UInt8) : Int := if l.length < 1 ∨ 4 < l.length then 2 else 0
def getN (l : List UInt8) : Nat := if l.length < 1 ∨ 4 < l.length then 0 else unle l
def getHE (l : List UInt8) : Int := if ¬ l.length = 2 ∧ ¬ l.length = 4 then 2 else 0
def getHN (l : List UInt8) : Nat := if ¬ l.length = 2 ∧ ¬ l.length = 4 then 0 else unle l.reverse
def unhexE (l : List UInt8) : Int := if (unhexL l).isSome then 0 else 2
def unhexO (l : List UInt8) : List UInt8 := (unhexL l).getD []

theorem unle_lt32 (l : List UInt8) (h : l.length ≤ 4) : unle l < 4294967296 := by
  have h1 := unle_lt l
  have h2 : (256 : Nat) ^ l.length ≤ 256 ^ 4 := Nat.pow_le_pow_right (by decide) h
  have h3 : (256 : Nat) ^ 4 = 4294967296 := by decide
  omega

end Go.Proofs.YtlnnhgmkibjgmaaDoor.I.Wd
end

/- What package word's Put does, for whatever it is called with. -/
section
namespace Go.Proofs.YtlnnhgmkibjgmaaDoor.I
open Go.RowKit

theorem bat_alloc {T e : TypeId} {B b : Nat} {p : Value} {bs : List Value} {w : World} (h : Lib.BuilderAt T e B b p bs w) (o : Obj) : Lib.BuilderAt T e B b p bs (w.alloc o) := by
  obtain ⟨hB, v, hb, hown, hne⟩ := h
  exact ⟨hB, v, (Lib.alloc_old w o b (lt_of_heap hb)).trans hb, hown.alloc o, hne⟩
theorem ib_alloc {T e : TypeId} {B b : Nat} {bs : List Value} {w : World} (h : Lib.IsBuilder T e B b bs w) (o : Obj) : Lib.IsBuilder T e B b bs (w.alloc o) := by
  rcases h with h | h
  · exact Or.inl (bat_alloc h o)
  · exact Or.inr (bat_alloc h o)
theorem ib_lt {T e : TypeId} {B b : Nat} {bs : List Value} {w : World} (h : Lib.IsBuilder T e B b bs w) : b < w.heap.size := by
  rcases h with h | h
  · exact h.lt
  · exact h.lt
theorem ib_le {T e : TypeId} {B b : Nat} {bs : List Value} {w : World} (h : Lib.IsBuilder T e B b bs w) : B ≤ b := by
  rcases h with h | h
  · exact h.1
  · exact h.1

theorem liesW : LiesB 128 := ⟨by decide, by kernel_rfl⟩

set_option maxHeartbeats 1000000 in
set_option maxRecDepth 100000 in
/-- add: what Write does. -/
theorem add_any (B b : Nat) (bs : List Value) (ad : Addr) (m c : Nat) (news : List Value) (w : World) (h : Lib.IsBuilder 128 5 B b bs w)
    (hl : news.length = m) (hnews : ∀ j u, news[j]? = some u → w.cell? (ad.add j) = some u) (hadB : ad.block ≠ b) (h1 : ∀ u ∈ news, u.oneCell' = true)
    (hlen : bs.length + m ≤ 140737488355328) (hBw : B ≤ w.heap.size) :
    Calls Tryd.prog 86 #[.pointer (some ⟨b, 0, none⟩), .slice (some ad) m c] w fun e w' => e = .returned (.tuple #[]) ∧ (Lib.BuilderAt 128 5 B b (.pointer (some ⟨b, 0, none⟩)) (bs ++ news) w' ∧ Below B w w') := by
  have cW := Lib.hid (write_any liesW B b bs ad m c news w h hl hnews hadB h1 hlen hBw)
  clear hl hnews h1
  go_enter Tryd.func86, Tryd.ntmps86
  go_wp2_with (go_at_call 89; refine cW.out.mono ?_; rintro e w1 ⟨rfl, q1, q2⟩)
  go_end0
  exact ⟨rfl, q1, q2⟩

/-- add of one byte that lies in a new block. -/
theorem add_one (B b : Nat) (bs : List Value) (x : Int) (W : World) (h : Lib.IsBuilder 128 5 B b bs W) (hlen : bs.length + 1 ≤ 140737488355328) :
    Calls Tryd.prog 86 #[.pointer (some ⟨b, 0, none⟩), .slice (some ⟨W.heap.size, 0, none⟩) 1 1] (W.alloc (.cells #[.int .u8 x] 5)) fun e w' =>
      e = .returned (.tuple #[]) ∧ (Lib.IsBuilder 128 5 B b (bs ++ [.int .u8 x]) w' ∧ Below B W w') := by
  have hlt := ib_lt h
  have hle := ib_le h
  refine (add_any B b bs ⟨W.heap.size, 0, none⟩ 1 1 [.int .u8 x] (W.alloc (.cells #[.int .u8 x] 5)) (ib_alloc h _) rfl ?_ (fun e => by simp at e; omega) (fun u hu => by simp at hu; subst hu; rfl) hlen (by simp; omega)).mono ?_
  · intro j u hj
    have hnew : (W.alloc (.cells #[.int .u8 x] 5)).heap[W.heap.size]? = some (.cells #[.int .u8 x] 5 (0, 0)) := heap_alloc_new W _
    rcases j with _ | j
    · simp at hj; subst hj
      show (W.alloc (.cells #[.int .u8 x] 5)).cell? ⟨W.heap.size, 0, none⟩ = _
      rw [Lib.cell_of_heap hnew]; rfl
    · simp at hj
  · rintro e w' ⟨rfl, q1, q2⟩
    exact ⟨rfl, Or.inr q1, ((Below.refl B W).alloc (by omega) _).trans q2⟩

theorem new_builder (w : World) : Lib.IsBuilder 128 5 w.heap.size w.heap.size (Lib.byteCells []) (w.alloc (.cells #[.pointer none, .slice none 0 0] 128)) := Lib.fresh_isBuilder 128 5 w

theorem cells_snoc (l : List UInt8) (k : Nat) (h : k < l.length) : Lib.byteCells (l.take (k + 1)) = Lib.byteCells (l.take k) ++ [.int .u8 (l[k].toNat : Int)] := by
  rw [List.take_succ_eq_append_getElem h, Lib.byteCells_append]; rfl
theorem data_get (s : ByteArray) (k : Nat) (h : k < s.size) : s.data.toList[k]'(by simpa using h) = s[k] := rfl
theorem data_len (s : ByteArray) : s.data.toList.length = s.size := rfl
theorem le_step (x : Int) (k : Nat) (h0 : 0 ≤ x) : Lib.byteCells (Wd.le x.toNat k) ++ [.int .u8 (x / 2 ^ (8 * k) % 256)] = Lib.byteCells (Wd.le x.toNat (k + 1)) := by
  obtain ⟨v, rfl⟩ := Int.eq_ofNat_of_zero_le h0
  rw [Wd.le, Lib.byteCells_append]
  have e : (256 : Nat) ^ k = 2 ^ (8 * k) := by rw [Nat.pow_mul]
  have e2 : ((v : Int) / 2 ^ (8 * k) % 256) = ((v / 256 ^ k % 256 : Nat) : Int) := by rw [e]; simp
  rw [e2]
  simp [Lib.byteCells]
theorem le_length' (v k : Nat) : (Lib.byteCells (Wd.le v k)).length = k := by rw [Lib.byteCells_length, Wd.le_length]

set_option maxHeartbeats 1000000 in
set_option maxRecDepth 100000 in
theorem put1 (x : Int) (h0 : 0 ≤ x) (h1 : x < 256) (w : World) :
    Calls Tryd.prog 83 #[.int .u32 x, .int .i64 1] w fun e w' => e = .returned (.tuple #[.string ⟨(Wd.le x.toNat 1).toArray⟩, .int .i64 0]) ∧ Below w.heap.size w w' := by
  have HI := Lib.hid (new_builder w)
  go_enter Tryd.func83, Tryd.ntmps83
  go_wp2
  go_loopw [21] (fun i wr => ∃ k : Nat, k ≤ 1 ∧ i = .int .i64 k ∧ Hid (Lib.IsBuilder 128 5 w.heap.size w.heap.size (Lib.byteCells (Wd.le x.toNat k)) wr) ∧ Below w.heap.size w wr) (fun i _ => 1 - (intOf i).toNat)
  case atStart => exact ⟨0, Nat.zero_le _, rfl, HI, (Below.refl _ _).alloc (Nat.le_refl _) _⟩
  case round =>
    obtain ⟨k, hk, rfl, hB, hb⟩ := hrel
    by_cases hlt : k < 1
    · go_wp2_with fail
      refine (add_one w.heap.size w.heap.size _ _ wr hB.out (by rw [le_length']; omega)).mono ?_
      rintro e w1 ⟨rfl, q1, q2⟩
      have q3 := Lib.hid q1
      clear q1 hB
      rw [le_step x k h0] at q3
      have hb' := hb.trans q2
      clear hb q2
      go_wp2
      go_roundw
      case rel => exact ⟨k + 1, by omega, by go_num, q3, hb'⟩
      case measure => simp [intOf]; omega
    · go_wp2_with fail
      refine (string_any w.heap.size w.heap.size _ wr hB.out hb.size).mono ?_
      rintro e w1 ⟨rfl, q2⟩
      go_wp2
      go_ret2
      refine ⟨?_, hb.trans q2⟩
      have : k = 1 := by omega
      subst this
      rfl

set_option maxHeartbeats 1000000 in
set_option maxRecDepth 100000 in
theorem put1_long (x : Int) (h1 : 256 ≤ x) (h2 : x < 4294967296) (w : World) :
    Calls Tryd.prog 83 #[.int .u32 x, .int .i64 1] w fun e w' => e = .returned (.tuple #[.string ⟨#[]⟩, .int .i64 5]) ∧ w = w' := by
  go_enter Tryd.func83, Tryd.ntmps83
  go_wp2
  go_ret2
  exact ⟨rfl, rfl⟩

set_option maxHeartbeats 1000000 in
set_option maxRecDepth 100000 in
theorem put2 (x : Int) (h0 : 0 ≤ x) (h1 : x < 65536) (w : World) :
    Calls Tryd.prog 83 #[.int .u32 x, .int .i64 2] w fun e w' => e = .returned (.tuple #[.string ⟨(Wd.le x.toNat 2).toArray⟩, .int .i64 0]) ∧ Below w.heap.size w w' := by
  have HI := Lib.hid (new_builder w)
  go_enter Tryd.func83, Tryd.ntmps83
  go_wp2
  go_loopw [21] (fun i wr => ∃ k : Nat, k ≤ 2 ∧ i = .int .i64 k ∧ Hid (Lib.IsBuilder 128 5 w.heap.size w.heap.size (Lib.byteCells (Wd.le x.toNat k)) wr) ∧ Below w.heap.size w wr) (fun i _ => 2 - (intOf i).toNat)
  case atStart => exact ⟨0, Nat.zero_le _, rfl, HI, (Below.refl _ _).alloc (Nat.le_refl _) _⟩
  case round =>
    obtain ⟨k, hk, rfl, hB, hb⟩ := hrel
    by_cases hlt : k < 2
    · go_wp2_with fail
      refine (add_one w.heap.size w.heap.size _ _ wr hB.out (by rw [le_length']; omega)).mono ?_
      rintro e w1 ⟨rfl, q1, q2⟩
      have q3 := Lib.hid q1
      clear q1 hB
      rw [le_step x k h0] at q3
      have hb' := hb.trans q2
      clear hb q2
      go_wp2
      go_roundw
      case rel => exact ⟨k + 1, by omega, by go_num, q3, hb'⟩
      case measure => simp [intOf]; omega
    · go_wp2_with fail
      refine (string_any w.heap.size w.heap.size _ wr hB.out hb.size).mono ?_
      rintro e w1 ⟨rfl, q2⟩
      go_wp2
      go_ret2
      refine ⟨?_, hb.trans q2⟩
      have : k = 2 := by omega
      subst this
      rfl

set_option maxHeartbeats 1000000 in
set_option maxRecDepth 100000 in
theorem put2_long (x : Int) (h1 : 65536 ≤ x) (h2 : x < 4294967296) (w : World) :
    Calls Tryd.prog 83 #[.int .u32 x, .int .i64 2] w fun e w' => e = .returned (.tuple #[.string ⟨#[]⟩, .int .i64 5]) ∧ w = w' := by
  go_enter Tryd.func83, Tryd.ntmps83
  go_wp2
  go_ret2
  exact ⟨rfl, rfl⟩

set_option maxHeartbeats 1000000 in
set_option maxRecDepth 100000 in
theorem put3 (x : Int) (h0 : 0 ≤ x) (h1 : x < 16777216) (w : World) :
    Calls Tryd.prog 83 #[.int .u32 x, .int .i64 3] w fun e w' => e = .returned (.tuple #[.string ⟨(Wd.le x.toNat 3).toArray⟩, .int .i64 0]) ∧ Below w.heap.size w w' := by
  have HI := Lib.hid (new_builder w)
  go_enter Tryd.func83, Tryd.ntmps83
  go_wp2
  go_loopw [21] (fun i wr => ∃ k : Nat, k ≤ 3 ∧ i = .int .i64 k ∧ Hid (Lib.IsBuilder 128 5 w.heap.size w.heap.size (Lib.byteCells (Wd.le x.toNat k)) wr) ∧ Below w.heap.size w wr) (fun i _ => 3 - (intOf i).toNat)
  case atStart => exact ⟨0, Nat.zero_le _, rfl, HI, (Below.refl _ _).alloc (Nat.le_refl _) _⟩
  case round =>
    obtain ⟨k, hk, rfl, hB, hb⟩ := hrel
    by_cases hlt : k < 3
    · go_wp2_with fail
      refine (add_one w.heap.size w.heap.size _ _ wr hB.out (by rw [le_length']; omega)).mono ?_
      rintro e w1 ⟨rfl, q1, q2⟩
      have q3 := Lib.hid q1
      clear q1 hB
      rw [le_step x k h0] at q3
      have hb' := hb.trans q2
      clear hb q2
      go_wp2
      go_roundw
      case rel => exact ⟨k + 1, by omega, by go_num, q3, hb'⟩
      case measure => simp [intOf]; omega
    · go_wp2_with fail
      refine (string_any w.heap.size w.heap.size _ wr hB.out hb.size).mono ?_
      rintro e w1 ⟨rfl, q2⟩
      go_wp2
      go_ret2
      refine ⟨?_, hb.trans q2⟩
      have : k = 3 := by omega
      subst this
      rfl

set_option maxHeartbeats 1000000 in
set_option maxRecDepth 100000 in
theorem put3_long (x : Int) (h1 : 16777216 ≤ x) (h2 : x < 4294967296) (w : World) :
    Calls Tryd.prog 83 #[.int .u32 x, .int .i64 3] w fun e w' => e = .returned (.tuple #[.string ⟨#[]⟩, .int .i64 5]) ∧ w = w' := by
  go_enter Tryd.func83, Tryd.ntmps83
  go_wp2
  go_ret2
  exact ⟨rfl, rfl⟩

set_option maxHeartbeats 1000000 in
set_option maxRecDepth 100000 in
theorem put4 (x : Int) (h0 : 0 ≤ x) (h1 : x < 4294967296) (w : World) :
    Calls Tryd.prog 83 #[.int .u32 x, .int .i64 4] w fun e w' => e = .returned (.tuple #[.string ⟨(Wd.le x.toNat 4).toArray⟩, .int .i64 0]) ∧ Below w.heap.size w w' := by
  have HI := Lib.hid (new_builder w)
  go_enter Tryd.func83, Tryd.ntmps83
  go_wp2
  go_loopw [21] (fun i wr => ∃ k : Nat, k ≤ 4 ∧ i = .int .i64 k ∧ Hid (Lib.IsBuilder 128 5 w.heap.size w.heap.size (Lib.byteCells (Wd.le x.toNat k)) wr) ∧ Below w.heap.size w wr) (fun i _ => 4 - (intOf i).toNat)
  case atStart => exact ⟨0, Nat.zero_le _, rfl, HI, (Below.refl _ _).alloc (Nat.le_refl _) _⟩
  case round =>
    obtain ⟨k, hk, rfl, hB, hb⟩ := hrel
    by_cases hlt : k < 4
    · go_wp2_with fail
      refine (add_one w.heap.size w.heap.size _ _ wr hB.out (by rw [le_length']; omega)).mono ?_
      rintro e w1 ⟨rfl, q1, q2⟩
      have q3 := Lib.hid q1
      clear q1 hB
      rw [le_step x k h0] at q3
      have hb' := hb.trans q2
      clear hb q2
      go_wp2
      go_roundw
      case rel => exact ⟨k + 1, by omega, by go_num, q3, hb'⟩
      case measure => simp [intOf]; omega
    · go_wp2_with fail
      refine (string_any w.heap.size w.heap.size _ wr hB.out hb.size).mono ?_
      rintro e w1 ⟨rfl, q2⟩
      go_wp2
      go_ret2
      refine ⟨?_, hb.trans q2⟩
      have : k = 4 := by omega
      subst this
      rfl

set_option maxHeartbeats 1000000 in
theorem put_arg (x n : Int) (h : n < 1 ∨ 4 < n) (w : World) :
    Calls Tryd.prog 83 #[.int .u32 x, .int .i64 n] w fun e w' => e = .returned (.tuple #[.string ⟨#[]⟩, .int .i64 2]) ∧ w = w' := by
  by_cases h1 : n < 1
  · clear h
    go_enter Tryd.func83, Tryd.ntmps83
    go_wp2
    go_ret2
    exact ⟨rfl, rfl⟩
  · have h2 : 4 < n := by omega
    clear h
    go_enter Tryd.func83, Tryd.ntmps83
    go_wp2
    go_ret2
    exact ⟨rfl, rfl⟩

/-- Put, whatever it is called with. -/
def putS (x n : Int) : ByteArray := ⟨(Wd.putL x.toNat n).toArray⟩
def putE (x n : Int) : Int := Wd.putE x.toNat n

theorem put_any (x n : Int) (h0 : 0 ≤ x) (h1 : x < 4294967296) (w : World) :
    Calls Tryd.prog 83 #[.int .u32 x, .int .i64 n] w fun e w' => e = .returned (.tuple #[.string (putS x n), .int .i64 (putE x n)]) ∧ Below w.heap.size w w' := by
  by_cases ha : n < 1 ∨ 4 < n
  · have e1 : putE x n = 2 := by unfold putE Wd.putE; rw [if_pos ha]
    have e2 : putS x n = ⟨#[]⟩ := by unfold putS Wd.putL Wd.putE; rw [if_pos ha, if_neg (by decide)]
    rw [e1, e2]
    refine (put_arg x n ha w).mono ?_
    rintro e w' ⟨rfl, rfl⟩
    exact ⟨rfl, Below.refl _ _⟩
  · have hn : n = 1 ∨ n = 2 ∨ n = 3 ∨ n = 4 := by omega
    rcases hn with rfl | rfl | rfl | rfl
    · by_cases hl : 256 ≤ x
      · have e1 : putE x 1 = 5 := by unfold putE Wd.putE; rw [if_neg (by omega), if_pos (by show 256 ≤ x.toNat; omega)]
        have e2 : putS x 1 = ⟨#[]⟩ := by
          have : Wd.putE x.toNat 1 = 5 := e1
          unfold putS Wd.putL; rw [this, if_neg (by decide)]
        rw [e1, e2]
        refine (put1_long x hl h1 w).mono ?_
        rintro e w' ⟨rfl, rfl⟩
        exact ⟨rfl, Below.refl _ _⟩
      · have e1 : putE x 1 = 0 := by unfold putE Wd.putE; rw [if_neg (by omega), if_neg (by show ¬ 256 ≤ x.toNat; omega)]
        have e2 : putS x 1 = ⟨(Wd.le x.toNat 1).toArray⟩ := by
          have : Wd.putE x.toNat 1 = 0 := e1
          unfold putS Wd.putL; rw [this, if_pos rfl]; rfl
        rw [e1, e2]
        exact put1 x h0 (by omega) w
    · by_cases hl : 65536 ≤ x
      · have e1 : putE x 2 = 5 := by unfold putE Wd.putE; rw [if_neg (by omega), if_pos (by show 65536 ≤ x.toNat; omega)]
        have e2 : putS x 2 = ⟨#[]⟩ := by
          have : Wd.putE x.toNat 2 = 5 := e1
          unfold putS Wd.putL; rw [this, if_neg (by decide)]
        rw [e1, e2]
        refine (put2_long x hl h1 w).mono ?_
        rintro e w' ⟨rfl, rfl⟩
        exact ⟨rfl, Below.refl _ _⟩
      · have e1 : putE x 2 = 0 := by unfold putE Wd.putE; rw [if_neg (by omega), if_neg (by show ¬ 65536 ≤ x.toNat; omega)]
        have e2 : putS x 2 = ⟨(Wd.le x.toNat 2).toArray⟩ := by
          have : Wd.putE x.toNat 2 = 0 := e1
          unfold putS Wd.putL; rw [this, if_pos rfl]; rfl
        rw [e1, e2]
        exact put2 x h0 (by omega) w
    · by_cases hl : 16777216 ≤ x
      · have e1 : putE x 3 = 5 := by unfold putE Wd.putE; rw [if_neg (by omega), if_pos (by show 16777216 ≤ x.toNat; omega)]
        have e2 : putS x 3 = ⟨#[]⟩ := by
          have : Wd.putE x.toNat 3 = 5 := e1
          unfold putS Wd.putL; rw [this, if_neg (by decide)]
        rw [e1, e2]
        refine (put3_long x hl h1 w).mono ?_
        rintro e w' ⟨rfl, rfl⟩
        exact ⟨rfl, Below.refl _ _⟩
      · have e1 : putE x 3 = 0 := by unfold putE Wd.putE; rw [if_neg (by omega), if_neg (by show ¬ 16777216 ≤ x.toNat; omega)]
        have e2 : putS x 3 = ⟨(Wd.le x.toNat 3).toArray⟩ := by
          have : Wd.putE x.toNat 3 = 0 := e1
          unfold putS Wd.putL; rw [this, if_pos rfl]; rfl
        rw [e1, e2]
        exact put3 x h0 (by omega) w
    · have e1 : putE x 4 = 0 := by unfold putE Wd.putE; rw [if_neg (by omega), if_neg (by show ¬ 4294967296 ≤ x.toNat; omega)]
      have e2 : putS x 4 = ⟨(Wd.le x.toNat 4).toArray⟩ := by
        have : Wd.putE x.toNat 4 = 0 := e1
        unfold putS Wd.putL; rw [this, if_pos rfl]; rfl
      rw [e1, e2]
      exact put4 x h0 (by omega) w

theorem putS_size (x n : Int) : (putS x n).size ≤ 4 := by
  show (Wd.putL x.toNat n).toArray.size ≤ 4
  unfold Wd.putL
  split
  · rename_i h
    unfold Wd.putE at h
    split at h
    · omega
    · simp [Wd.le_length]; omega
  · simp

end Go.Proofs.YtlnnhgmkibjgmaaDoor.I
end
