/- What the document's own Bytes and Get (package aediculeref01) make of whatever they are called with: the same as package word's. -/
import Derived.Test.YtillcbmjpcbpaaaDoorWF
import Derived.Lib.BufferRead
import Derived.Laws.OwnMore
set_option linter.unusedVariables false
namespace Go.Proofs.YtillcbmjpcbpaaaDoor
open Go.RowKit

theorem vi' {k : IntKind} {a b : Int} (h : a = b) : Value.int k a = Value.int k b := by rw [h]

/-- A slice of the call's own that holds the bytes l. -/
def Own (B : Nat) (l : List UInt8) (v : Value) (w : World) : Prop := w.ownsRow B 5 1 v l.length (Lib.byteCells l)

theorem own_nil (B : Nat) (w : World) : Own B [] (.slice none 0 0) w := World.ownsRow_nil _ _ _ _

theorem own_text {B : Nat} {l : List UInt8} {v : Value} {w : World} (h : Own B l v w) : (convert 43 9 v).run Tryd.prog w = .ok (.string ⟨l.toArray⟩) w := by
  unfold Own at h
  rcases h.2 with ⟨rfl, h0⟩ | ⟨g, cap, cur, rfl, hBg, hg, hnc, hcm, hcs, htk⟩
  · have : l = [] := by simpa using h0
    subst this
    exact Lib.run_convert_nil_bytes w 43 9 5 0 Tryd.underlying43 Tryd.underlying5 Tryd.underlying9
  · exact run_convert_bytes_back w 43 9 5 ⟨g, 0, none⟩ cap l Tryd.underlying43 Tryd.underlying5 Tryd.underlying9 (Lib.bytes_of_row hg (by simpa using htk))

theorem own_slice {B : Nat} {l : List UInt8} {v : Value} {w : World} (h : Own B l v w) : ∃ a n c, v = .slice a n c := by
  unfold Own at h
  rcases h.2 with ⟨rfl, _⟩ | ⟨g, cap, cur, rfl, _⟩
  · exact ⟨_, _, _, rfl⟩
  · exact ⟨_, _, _, rfl⟩

theorem own_one {B : Nat} {l : List UInt8} {x : UInt8} {v : Value} {w : World} {y : Int} (hy : y = (x.toNat : Int)) (h : w.ownsRow B 5 1 v (l.length + 1) (Lib.byteCells l ++ [.int .u8 y])) : Own B (l ++ [x]) v w := by
  unfold Own
  rw [List.length_append, Lib.byteCells_append, hy] at *
  exact h

theorem new_one (W : World) (x : Value) : ∀ j u, [x][j]? = some u → (W.alloc (.cells #[x] 5)).cell? ((⟨W.heap.size, 0, none⟩ : Addr).add j) = some u := by
  intro j u hj
  have hnew : (W.alloc (.cells #[x] 5)).heap[W.heap.size]? = some (.cells #[x] 5 (0, 0)) := heap_alloc_new W _
  rcases j with _ | j
  · simp at hj; subst hj
    show (W.alloc (.cells #[x] 5)).cell? ⟨W.heap.size, 0, none⟩ = _
    rw [Lib.cell_of_heap hnew]; rfl
  · simp at hj

theorem ret_str {l l' : List UInt8} (h : l = l') : Ending.returned (.string ⟨l.toArray⟩) = .returned (.string ⟨l'.toArray⟩) := by rw [h]

theorem app_below {B n : Nat} {l : List UInt8} {v : Value} {w wr w1 : World} {X : Obj} (hb : Below B w wr) (hB : B ≤ wr.heap.size) (hown : wr.ownsRow B 5 1 v n (Lib.byteCells l)) (hg : (wr.alloc X).grownBy w1 v.ownBlock) : Below B w w1 :=
  (hb.alloc hB X).grown hg (by simp; omega) (fun k hk => (hown.lt k hk).1)

set_option maxHeartbeats 1000000 in
set_option maxRecDepth 100000 in
theorem bytes_any (x n : Int) (h0 : 0 ≤ x) (h1 : x < 4294967296) (hn0 : 0 ≤ n) (hn : n ≤ 4) (w : World) :
    Calls Tryd.prog 17 #[.int .u32 x, .int .i64 n] w fun e w' => e = .returned (.string ⟨(Wd.le x.toNat n.toNat).toArray⟩) ∧ Below w.heap.size w w' := by
  obtain ⟨i0, hi, hz0, hz1, hz2⟩ := info_parts infoByte
  have HX := Lib.hid (show ((x.toNat : Nat) : Int) = x from by omega)
  go_enter Tryd.func17, Tryd.ntmps17
  go_wp2
  go_loopw [0, 5, 6] (fun t0 sl i wr => ∃ (k : Nat) (A : Int) (z : Value), (k : Int) ≤ n ∧ i = .int .i64 k ∧ t0 = .int .u32 A ∧ z = sl ∧ 0 ≤ A ∧ A < 4294967296 ∧ Hid (((x.toNat / 256 ^ k : Nat) : Int) = A) ∧ Hid (Own w.heap.size (Wd.le x.toNat k) z wr) ∧ Below w.heap.size w wr) (fun _ _ i _ => (n - intOf i).toNat)
  case atStart => exact ⟨0, x, .slice none 0 0, hn0, rfl, rfl, rfl, h0, h1, Lib.hid (by simp; omega), Lib.hid (own_nil _ _), Below.refl _ _⟩
  case round =>
    obtain ⟨k, A, sl, hk, rfl, rfl, rfl, hA0, hA, HA, HO, hb⟩ := hrel
    by_cases hlt : (k : Int) < n
    · have hown : wr.ownsRow w.heap.size 5 1 sl k (Lib.byteCells (Wd.le x.toNat k)) := by have := HO.out; unfold Own at this; rw [Wd.le_length] at this; exact this
      have Hown := Lib.hid hown
      clear hown HO
      have hsz := hb.size
      go_wp2_with (at_builtin; refine wpList_append_own _ rfl _ _ 43 rfl w.heap.size 5 i0 (.int .u8 0) 1 1 Tryd.underlying43 hi hz0 hz1 hz2 rfl (by decide) _ _ _ rfl (Hown.out.alloc _) ⟨wr.heap.size, 0, none⟩ 1 1 [.int .u8 (A % 256)] rfl rfl ?c1 ?c2 ?c3 ?c4 ?c5 ?_)
      case c1 => exact new_one _ _
      case c2 => intro u hu; simp at hu; subst hu; rfl
      case c3 => unfold maxLen; omega
      case c4 => omega
      case c5 => simp; omega
      intro z' w1 hown' hgrow _
      have hb1 := app_below hb hsz Hown.out hgrow
      have HO1 : Hid (Own w.heap.size (Wd.le x.toNat (k + 1)) z' w1) := by
        have hA1 := HA.out
        refine Lib.hid (own_one (x := UInt8.ofNat (x.toNat / 256 ^ k)) (y := A % 256) ?_ ?_)
        · rw [Wd.ofNat_toNat, ← hA1]; omega
        · rw [Wd.le_length]; exact hown'
      have HA1 : Hid (((x.toNat / 256 ^ (k + 1) : Nat) : Int) = A / 256) := by
        have hA1 := HA.out
        refine Lib.hid ?_
        rw [← hA1, Nat.pow_succ, ← Nat.div_div_eq_div_mul]; omega
      clear hown' hgrow Hown HA hb hsz
      go_wp2
      go_roundw
      case rel => exact ⟨k + 1, A / 256, z', by omega, by go_num, vi' (by omega), rfl, by omega, by omega, HA1, HO1, hb1⟩
      case measure => simp [intOf]; omega
    · have hconv := own_text HO.out
      obtain ⟨a', n', c', hsl⟩ := own_slice HO.out
      have hkn : n.toNat = k := by omega
      have HE := Lib.hid hkn
      clear hkn
      subst hsl
      go_wp2
      go_ret
      exact ⟨ret_str (by rw [HE.out]), hb⟩

/-- Get, from the highest byte. -/
theorem rget_step (l : List UInt8) (m V : Nat) (h : m < l.length) (hV : Wd.unle (l.drop (m + 1)) = V) : Wd.unle (l.drop m) = 256 * V + l[m].toNat := by
  rw [List.drop_eq_getElem_cons h, Wd.unle, hV]; omega

set_option maxHeartbeats 1000000 in
set_option maxRecDepth 100000 in
theorem rget_ok (s : ByteArray) (h1 : 1 ≤ s.size) (h4 : s.size ≤ 4) (r : Int) (hr : Hid (((Wd.unle s.data.toList : Nat) : Int) = r)) (w : World) :
    Calls Tryd.prog 19 #[.string s] w fun e w' => e = .returned (.tuple #[.int .u32 r, .int .i64 0]) ∧ w = w' := by
  go_enter Tryd.func19, Tryd.ntmps19
  go_wp2
  go_loop [4, 5] (fun v i => ∃ (j V : Int), -1 ≤ j ∧ j < s.size ∧ i = .int .i64 j ∧ v = .int .u32 V ∧ 0 ≤ V ∧ Hid (((Wd.unle (s.data.toList.drop (j + 1).toNat) : Nat) : Int) = V)) (fun _ i => (intOf i + 1).toNat)
  case atStart => exact ⟨(s.size : Int) - 1, 0, by omega, by omega, rfl, rfl, by omega, Lib.hid (by rw [List.drop_of_length_le (by rw [data_len]; omega)]; rfl)⟩
  case round =>
    obtain ⟨j, V, hj0, hj, rfl, rfl, hV0, HV⟩ := hrel
    by_cases hlt : 0 ≤ j
    · obtain ⟨m, rfl⟩ := Int.eq_ofNat_of_zero_le hlt
      have hm : m < s.size := by omega
      have hVlt : V < 16777216 := by
        have h2 := HV.out
        have h3 := Wd.unle_lt (s.data.toList.drop ((m : Int) + 1).toNat)
        have h5 : (s.data.toList.drop ((m : Int) + 1).toNat).length ≤ 3 := by rw [List.length_drop, data_len]; omega
        have h6 : (256 : Nat) ^ (s.data.toList.drop ((m : Int) + 1).toNat).length ≤ 256 ^ 3 := Nat.pow_le_pow_right (by decide) h5
        have h7 : (256 : Nat) ^ 3 = 16777216 := by decide
        omega
      have HS : Hid (((Wd.unle (s.data.toList.drop ((m : Int) - 1 + 1).toNat) : Nat) : Int) = 256 * V + (s[m].toNat : Int)) := by
        have h2 := HV.out
        have e : ((m : Int) + 1).toNat = m + 1 := by omega
        rw [e] at h2
        have h3 := rget_step s.data.toList m _ (by rw [data_len]; omega) rfl
        rw [show ((m : Int) - 1 + 1).toNat = m by omega, h3, ← h2]
        exact Lib.hid (by rw [data_get s m hm]; omega)
      clear HV
      have hbt : (s[m].toNat : Int) < 256 := by have := s[m].toNat_lt; omega
      go_wp2
      go_round
      case rel => exact ⟨(m : Int) - 1, 256 * V + (s[m].toNat : Int), by omega, by omega, rfl, vi' (by omega), by omega, HS⟩
      case measure => simp [intOf]
    · have hj' : j = -1 := by omega
      subst hj'
      go_wp2
      go_ret2
      have e : V = r := by rw [← HV.out, ← hr.out]; rfl
      exact ⟨by rw [e]; rfl, rfl⟩

set_option maxHeartbeats 1000000 in
theorem rget_no (s : ByteArray) (h : s.size < 1 ∨ 4 < s.size) (w : World) :
    Calls Tryd.prog 19 #[.string s] w fun e w' => e = .returned (.tuple #[.int .u32 0, .int .i64 2]) ∧ w = w' := by
  by_cases h1 : s.size < 1
  · clear h
    go_enter Tryd.func19, Tryd.ntmps19
    go_wp2
    go_ret2
    exact ⟨rfl, rfl⟩
  · have h2 : 4 < s.size := by omega
    clear h
    go_enter Tryd.func19, Tryd.ntmps19
    go_wp2
    go_ret2
    exact ⟨rfl, rfl⟩

theorem rget_any (s : ByteArray) (w : World) :
    Calls Tryd.prog 19 #[.string s] w fun e w' => e = .returned (.tuple #[.int .u32 (getV s), .int .i64 (getE s)]) ∧ w = w' := by
  by_cases h : s.size < 1 ∨ 4 < s.size
  · have e1 : getV s = 0 := by unfold getV Wd.getN; rw [data_len, if_pos h]; rfl
    have e2 : getE s = 2 := by unfold getE Wd.getE; rw [data_len, if_pos h]
    rw [e1, e2]
    exact rget_no s h w
  · have e1 : getV s = (Wd.unle s.data.toList : Nat) := by unfold getV Wd.getN; rw [data_len, if_neg h]
    have e2 : getE s = 0 := by unfold getE Wd.getE; rw [data_len, if_neg h]
    rw [e1, e2]
    exact rget_ok s (by omega) (by omega) _ (Lib.hid rfl) w

end Go.Proofs.YtillcbmjpcbpaaaDoor
