/- Some texts of one proof, one behind the other; each has its own head below. -/
import Derived.Test.YtlnnhgmkibjgmaaDoorX01
import Derived.Lib.BufferRead
import Derived.Laws.OwnMore
/- What package word's Get, PutHigh, GetHigh, Hex and Unhex do, for whatever they are called with. -/
section
set_option linter.unusedVariables false
namespace Go.Proofs.YtlnnhgmkibjgmaaDoor.I
open Go.RowKit

def getV (s : ByteArray) : Int := (Wd.getN s.data.toList : Nat)
def getE (s : ByteArray) : Int := Wd.getE s.data.toList

theorem shl_bound (b k : Nat) (hb : b < 256) (hk : k < 4) : b * 2 ^ (8 * k) < 4294967296 := by
  have h : k = 0 ∨ k = 1 ∨ k = 2 ∨ k = 3 := by omega
  rcases h with rfl | rfl | rfl | rfl <;> simp <;> omega

theorem get_step (l : List UInt8) (k V : Nat) (hk : k < 4) (hl : k < l.length) (hV : Wd.unle (l.take k) = V) :
    bits .or .u32 (V : Int) ((l[k].toNat : Int) % 4294967296 * 2 ^ (8 * k) % 4294967296) = (Wd.unle (l.take (k + 1)) : Nat) := by
  have hb := l[k].toNat_lt
  have hB := shl_bound l[k].toNat k hb hk
  have hlen : (l.take k).length = k := by simp; omega
  have hVlt : V < 256 ^ k := by rw [← hV]; have := Wd.unle_lt (l.take k); rw [hlen] at this; exact this
  have e : (256 : Nat) ^ k = 2 ^ (8 * k) := by rw [Nat.pow_mul]
  have hlt : V < 4294967296 := by
    have h1 : (256 : Nat) ^ k ≤ 256 ^ 3 := Nat.pow_le_pow_right (by decide) (by omega)
    have h2 : (256 : Nat) ^ 3 = 16777216 := by decide
    omega
  have e2 : ((l[k].toNat : Int) * 2 ^ (8 * k) % 4294967296) = ((l[k].toNat * 2 ^ (8 * k) : Nat) : Int) := by
    have : ((l[k].toNat : Int) * 2 ^ (8 * k)) = ((l[k].toNat * 2 ^ (8 * k) : Nat) : Int) := by simp
    rw [this]; omega
  rw [show ((l[k].toNat : Int) % 4294967296) = (l[k].toNat : Int) by omega, e2, u32_or_nat _ _ hlt hB, Nat.or_comm, nat_join (8 * k) _ _ (Nat.mul_mod_left _ _) (by rw [← e]; exact hVlt)]
  rw [List.take_succ_eq_append_getElem hl, Wd.unle_append, hV, hlen]
  simp only [Wd.unle, Nat.mul_zero, Nat.add_zero]
  rw [e, Nat.mul_comm, Nat.add_comm]

set_option maxHeartbeats 1000000 in
set_option maxRecDepth 100000 in
theorem get_ok (s : ByteArray) (h1 : 1 ≤ s.size) (h4 : s.size ≤ 4) (r : Nat) (hr : Hid (Wd.unle s.data.toList = r)) (w : World) :
    Calls Tryd.prog 49 #[.string s] w fun e w' => e = .returned (.tuple #[.int .u32 r, .int .i64 0]) ∧ w = w' := by
  go_enter Tryd.func49, Tryd.ntmps49
  go_wp2
  go_loop [4, 16] (fun v i => ∃ k V : Nat, k ≤ s.size ∧ i = .int .i64 k ∧ v = .int .u32 V ∧ Hid (Wd.unle (s.data.toList.take k) = V)) (fun _ i => s.size - (intOf i).toNat)
  case atStart => exact ⟨0, 0, Nat.zero_le _, rfl, rfl, Lib.hid rfl⟩
  case round =>
    obtain ⟨k, V, hk, rfl, rfl, HV⟩ := hrel
    by_cases hlt : k < s.size
    · have S := Lib.hid (get_step s.data.toList k V (by omega) (by simpa using hlt) HV.out)
      go_wp2
      go_round
      case rel => exact ⟨k + 1, _, by omega, by go_num, congrArg (Value.int .u32) S.out, Lib.hid rfl⟩
      case measure => simp [intOf]; omega
    · go_wp2
      go_ret2
      refine ⟨?_, rfl⟩
      have e : V = r := by
        rw [← HV.out, ← hr.out, List.take_of_length_le (by rw [data_len]; omega)]
      subst e
      rfl

set_option maxHeartbeats 1000000 in
theorem get_no (s : ByteArray) (h : s.size < 1 ∨ 4 < s.size) (hs : s.size ≤ 140737488355327) (w : World) :
    Calls Tryd.prog 49 #[.string s] w fun e w' => e = .returned (.tuple #[.int .u32 0, .int .i64 2]) ∧ w = w' := by
  by_cases h1 : s.size < 1
  · clear h
    go_enter Tryd.func49, Tryd.ntmps49
    go_wp2
    go_ret2
    exact ⟨rfl, rfl⟩
  · have h2 : 4 < s.size := by omega
    clear h
    go_enter Tryd.func49, Tryd.ntmps49
    go_wp2
    go_ret2
    exact ⟨rfl, rfl⟩

theorem get_any (s : ByteArray) (hs : s.size ≤ 140737488355327) (w : World) :
    Calls Tryd.prog 49 #[.string s] w fun e w' => e = .returned (.tuple #[.int .u32 (getV s), .int .i64 (getE s)]) ∧ w = w' := by
  by_cases h : s.size < 1 ∨ 4 < s.size
  · have e1 : getV s = 0 := by unfold getV Wd.getN; rw [data_len, if_pos h]; rfl
    have e2 : getE s = 2 := by unfold getE Wd.getE; rw [data_len, if_pos h]
    rw [e1, e2]
    exact get_no s h hs w
  · have e1 : getV s = (Wd.unle s.data.toList : Nat) := by unfold getV Wd.getN; rw [data_len, if_neg h]
    have e2 : getE s = 0 := by unfold getE Wd.getE; rw [data_len, if_neg h]
    rw [e1, e2]
    exact get_ok s (by omega) (by omega) _ (Lib.hid rfl) w

end Go.Proofs.YtlnnhgmkibjgmaaDoor.I
end

/- What the document's own Bytes and Get (package aediculeref01) make of whatever they are called with: the same as package word's. -/
section
set_option linter.unusedVariables false
namespace Go.Proofs.YtlnnhgmkibjgmaaDoor.I
open Go.RowKit

theorem vi' {k : IntKind} {a b : Int} (h : a = b) : Value.int k a = Value.int k b := by rw [h]

/-- A slice of the call's own that holds the bytes l. -/
def Own (B : Nat) (l : List UInt8) (v : Value) (w : World) : Prop := w.ownsRow B 5 1 v l.length (Lib.byteCells l)

theorem own_nil (B : Nat) (w : World) : Own B [] (.slice none 0 0) w := World.ownsRow_nil _ _ _ _

theorem own_text {B : Nat} {l : List UInt8} {v : Value} {w : World} (h : Own B l v w) : (convert 56 9 v).run Tryd.prog w = .ok (.string ⟨l.toArray⟩) w := by
  unfold Own at h
  rcases h.2 with ⟨rfl, h0⟩ | ⟨g, cap, cur, rfl, hBg, hg, hnc, hcm, hcs, htk⟩
  · have : l = [] := by simpa using h0
    subst this
    exact Lib.run_convert_nil_bytes w 56 9 5 0 Tryd.underlying56 Tryd.underlying5 Tryd.underlying9
  · exact run_convert_bytes_back w 56 9 5 ⟨g, 0, none⟩ cap l Tryd.underlying56 Tryd.underlying5 Tryd.underlying9 (Lib.bytes_of_row hg (by simpa using htk))

theorem own_slice {B : Nat} {l : List UInt8} {v : Value} {w : World} (h : Own B l v w) : ∃ a n c, v = .slice a n c := by
  unfold Own at h
  rcases h.2 with ⟨rfl, _⟩ | ⟨g, cap, cur, rfl, _⟩
  · exact ⟨_, _, _, rfl⟩
  · exact ⟨_, _, _, rfl⟩

theorem own_one {B : Nat} {l : List UInt8} {x : UInt8} {v : Value} {w : World} {y : Int} (hy : y = (x.toNat : Int)) (h : w.ownsRow B 5 1 v (l.length + 1) (Lib.byteCells l ++ [.int .u8 y])) : Own B (l ++ [x]) v w := by
  unfold Own
  rw [List.length_append, Lib.byteCells_append, hy] at *
  exact h

theorem new_one (W : World) (x : Value) : ∀ j u, [x][j]? = some u → (W.alloc (.cells #[x] 5)).cell? ((⟨W.heap.size, 0, none⟩ : Addr).add j) = some u := by
  intro j u hj
  have hnew : (W.alloc (.cells #[x] 5)).heap[W.heap.size]? = some (.cells #[x] 5 (0, 0)) := heap_alloc_new W _
  rcases j with _ | j
  · simp at hj; subst hj
    show (W.alloc (.cells #[x] 5)).cell? ⟨W.heap.size, 0, none⟩ = _
    rw [Lib.cell_of_heap hnew]; rfl
  · simp at hj

theorem ret_str {l l' : List UInt8} (h : l = l') : Ending.returned (.string ⟨l.toArray⟩) = .returned (.string ⟨l'.toArray⟩) := by rw [h]

theorem app_below {B n : Nat} {l : List UInt8} {v : Value} {w wr w1 : World} {X : Obj} (hb : Below B w wr) (hB : B ≤ wr.heap.size) (hown : wr.ownsRow B 5 1 v n (Lib.byteCells l)) (hg : (wr.alloc X).grownBy w1 v.ownBlock) : Below B w w1 :=
  (hb.alloc hB X).grown hg (by simp; omega) (fun k hk => (hown.lt k hk).1)

set_option maxHeartbeats 1000000 in
set_option maxRecDepth 100000 in
theorem bytes_any (x n : Int) (h0 : 0 ≤ x) (h1 : x < 4294967296) (hn0 : 0 ≤ n) (hn : n ≤ 4) (w : World) :
    Calls Tryd.prog 60 #[.int .u32 x, .int .i64 n] w fun e w' => e = .returned (.string ⟨(Wd.le x.toNat n.toNat).toArray⟩) ∧ Below w.heap.size w w' := by
  obtain ⟨i0, hi, hz0, hz1, hz2⟩ := info_parts infoByte
  have HX := Lib.hid (show ((x.toNat : Nat) : Int) = x from by omega)
  go_enter Tryd.func60, Tryd.ntmps60
  go_wp2
  go_loopw [0, 5, 6] (fun t0 sl i wr => ∃ (k : Nat) (A : Int) (z : Value), (k : Int) ≤ n ∧ i = .int .i64 k ∧ t0 = .int .u32 A ∧ z = sl ∧ 0 ≤ A ∧ A < 4294967296 ∧ Hid (((x.toNat / 256 ^ k : Nat) : Int) = A) ∧ Hid (Own w.heap.size (Wd.le x.toNat k) z wr) ∧ Below w.heap.size w wr) (fun _ _ i _ => (n - intOf i).toNat)
  case atStart => exact ⟨0, x, .slice none 0 0, hn0, rfl, rfl, rfl, h0, h1, Lib.hid (by simp; omega), Lib.hid (own_nil _ _), Below.refl _ _⟩
  case round =>
    obtain ⟨k, A, sl, hk, rfl, rfl, rfl, hA0, hA, HA, HO, hb⟩ := hrel
    by_cases hlt : (k : Int) < n
    · have hown : wr.ownsRow w.heap.size 5 1 sl k (Lib.byteCells (Wd.le x.toNat k)) := by have := HO.out; unfold Own at this; rw [Wd.le_length] at this; exact this
      have Hown := Lib.hid hown
      clear hown HO
      have hsz := hb.size
      go_wp2_with (at_builtin; refine wpList_append_own _ rfl _ _ 56 rfl w.heap.size 5 i0 (.int .u8 0) 1 1 Tryd.underlying56 hi hz0 hz1 hz2 rfl (by decide) _ _ _ rfl (Hown.out.alloc _) ⟨wr.heap.size, 0, none⟩ 1 1 [.int .u8 (A % 256)] rfl rfl ?c1 ?c2 ?c3 ?c4 ?c5 ?_)
      case c1 => exact new_one _ _
      case c2 => intro u hu; simp at hu; subst hu; rfl
      case c3 => unfold maxLen; omega
      case c4 => omega
      case c5 => simp; omega
      intro z' w1 hown' hgrow _
      have hb1 := app_below hb hsz Hown.out hgrow
      have HO1 : Hid (Own w.heap.size (Wd.le x.toNat (k + 1)) z' w1) := by
        have hA1 := HA.out
        refine Lib.hid (own_one (x := UInt8.ofNat (x.toNat / 256 ^ k)) (y := A % 256) ?_ ?_)
        · rw [Wd.ofNat_toNat, ← hA1]; omega
        · rw [Wd.le_length]; exact hown'
      have HA1 : Hid (((x.toNat / 256 ^ (k + 1) : Nat) : Int) = A / 256) := by
        have hA1 := HA.out
        refine Lib.hid ?_
        rw [← hA1, Nat.pow_succ, ← Nat.div_div_eq_div_mul]; omega
      clear hown' hgrow Hown HA hb hsz
      go_wp2
      go_roundw
      case rel => exact ⟨k + 1, A / 256, z', by omega, by go_num, vi' (by omega), rfl, by omega, by omega, HA1, HO1, hb1⟩
      case measure => simp [intOf]; omega
    · have hconv := own_text HO.out
      obtain ⟨a', n', c', hsl⟩ := own_slice HO.out
      have hkn : n.toNat = k := by omega
      have HE := Lib.hid hkn
      clear hkn
      subst hsl
      go_wp2
      go_ret
      exact ⟨ret_str (by rw [HE.out]), hb⟩
end Go.Proofs.YtlnnhgmkibjgmaaDoor.I
end
