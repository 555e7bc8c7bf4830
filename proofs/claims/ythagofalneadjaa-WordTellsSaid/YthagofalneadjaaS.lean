/- What the document's own Put, Get, PutHigh, GetHigh, Hex and Unhex (package aediculeref01) make of whatever they are called with: the same as package word's. -/
import Derived.Test.YthagofalneadjaaH
import Derived.Lib.BufferRead
import Derived.Laws.OwnMore
set_option linter.unusedVariables false
namespace Go.Proofs.Ythagofalneadjaa
open Go.RowKit

/-- A slice of the call's own that holds the bytes l. -/
def Own (B : Nat) (l : List UInt8) (v : Value) (w : World) : Prop := w.ownsRow B 5 1 v l.length (Lib.byteCells l)

theorem own_nil (B : Nat) (w : World) : Own B [] (.slice none 0 0) w := World.ownsRow_nil _ _ _ _

theorem own_text {B : Nat} {l : List UInt8} {v : Value} {w : World} (h : Own B l v w) : (convert 47 9 v).run Try.prog w = .ok (.string ⟨l.toArray⟩) w := by
  unfold Own at h
  rcases h.2 with ⟨rfl, h0⟩ | ⟨g, cap, cur, rfl, hBg, hg, hnc, hcm, hcs, htk⟩
  · have : l = [] := by simpa using h0
    subst this
    exact Lib.run_convert_nil_bytes w 47 9 5 0 Try.underlying47 Try.underlying5 Try.underlying9
  · exact run_convert_bytes_back w 47 9 5 ⟨g, 0, none⟩ cap l Try.underlying47 Try.underlying5 Try.underlying9 (Lib.bytes_of_row hg (by simpa using htk))

theorem own_slice {B : Nat} {l : List UInt8} {v : Value} {w : World} (h : Own B l v w) : ∃ a n c, v = .slice a n c := by
  unfold Own at h
  rcases h.2 with ⟨rfl, _⟩ | ⟨g, cap, cur, rfl, _⟩
  · exact ⟨_, _, _, rfl⟩
  · exact ⟨_, _, _, rfl⟩

theorem own_one {B : Nat} {l : List UInt8} {x : UInt8} {v : Value} {w : World} {y : Int} (hy : y = (x.toNat : Int)) (h : w.ownsRow B 5 1 v (l.length + 1) (Lib.byteCells l ++ [.int .u8 y])) : Own B (l ++ [x]) v w := by
  unfold Own
  rw [List.length_append, Lib.byteCells_append, hy] at *
  exact h

theorem new_one (W : World) (x : Value) : ∀ j u, [x][j]? = some u → (W.alloc (.cells #[x] 5)).cell? ((⟨W.heap.size, 0, none⟩ : Addr).add j) = some u := by
  intro j u hj
  have hnew : (W.alloc (.cells #[x] 5)).heap[W.heap.size]? = some (.cells #[x] 5 (0, 0)) := heap_alloc_new W _
  rcases j with _ | j
  · simp at hj; subst hj
    show (W.alloc (.cells #[x] 5)).cell? ⟨W.heap.size, 0, none⟩ = _
    rw [Lib.cell_of_heap hnew]; rfl
  · simp at hj

theorem ret_str {l l' : List UInt8} (h : l = l') : Ending.returned (.string ⟨l.toArray⟩) = .returned (.string ⟨l'.toArray⟩) := by rw [h]

theorem app_below {B n : Nat} {l : List UInt8} {v : Value} {w wr w1 : World} {X : Obj} (hb : Below B w wr) (hB : B ≤ wr.heap.size) (hown : wr.ownsRow B 5 1 v n (Lib.byteCells l)) (hg : (wr.alloc X).grownBy w1 v.ownBlock) : Below B w w1 :=
  (hb.alloc hB X).grown hg (by simp; omega) (fun k hk => (hown.lt k hk).1)

set_option maxHeartbeats 1000000 in
set_option maxRecDepth 100000 in
theorem bytes_any (x n : Int) (h0 : 0 ≤ x) (h1 : x < 4294967296) (hn0 : 0 ≤ n) (hn : n ≤ 4) (w : World) :
    Calls Try.prog 30 #[.int .u32 x, .int .i64 n] w fun e w' => e = .returned (.string ⟨(Wd.le x.toNat n.toNat).toArray⟩) ∧ Below w.heap.size w w' := by
  obtain ⟨i0, hi, hz0, hz1, hz2⟩ := info_parts infoByte
  have HX := Lib.hid (show ((x.toNat : Nat) : Int) = x from by omega)
  go_enter Try.func30, Try.ntmps30
  go_wp2
  go_loopw [0, 5, 6] (fun t0 sl i wr => ∃ (k : Nat) (A : Int) (z : Value), (k : Int) ≤ n ∧ i = .int .i64 k ∧ t0 = .int .u32 A ∧ z = sl ∧ 0 ≤ A ∧ A < 4294967296 ∧ Hid (((x.toNat / 256 ^ k : Nat) : Int) = A) ∧ Hid (Own w.heap.size (Wd.le x.toNat k) z wr) ∧ Below w.heap.size w wr) (fun _ _ i _ => (n - intOf i).toNat)
  case atStart => exact ⟨0, x, .slice none 0 0, hn0, rfl, rfl, rfl, h0, h1, Lib.hid (by simp; omega), Lib.hid (own_nil _ _), Below.refl _ _⟩
  case round =>
    obtain ⟨k, A, sl, hk, rfl, rfl, rfl, hA0, hA, HA, HO, hb⟩ := hrel
    by_cases hlt : (k : Int) < n
    · have hown : wr.ownsRow w.heap.size 5 1 sl k (Lib.byteCells (Wd.le x.toNat k)) := by have := HO.out; unfold Own at this; rw [Wd.le_length] at this; exact this
      have Hown := Lib.hid hown
      clear hown HO
      have hsz := hb.size
      go_wp2_with (at_builtin; refine wpList_append_own _ rfl _ _ 47 rfl w.heap.size 5 i0 (.int .u8 0) 1 1 Try.underlying47 hi hz0 hz1 hz2 rfl (by decide) _ _ _ rfl (Hown.out.alloc _) ⟨wr.heap.size, 0, none⟩ 1 1 [.int .u8 (A % 256)] rfl rfl ?c1 ?c2 ?c3 ?c4 ?c5 ?_)
      case c1 => exact new_one _ _
      case c2 => intro u hu; simp at hu; subst hu; rfl
      case c3 => unfold maxLen; omega
      case c4 => omega
      case c5 => simp; omega
      intro z' w1 hown' hgrow _
      have hb1 := app_below hb hsz Hown.out hgrow
      have HO1 : Hid (Own w.heap.size (Wd.le x.toNat (k + 1)) z' w1) := by
        have hA1 := HA.out
        refine Lib.hid (own_one (x := UInt8.ofNat (x.toNat / 256 ^ k)) (y := A % 256) ?_ ?_)
        · rw [Wd.ofNat_toNat, ← hA1]; omega
        · rw [Wd.le_length]; exact hown'
      have HA1 : Hid (((x.toNat / 256 ^ (k + 1) : Nat) : Int) = A / 256) := by
        have hA1 := HA.out
        refine Lib.hid ?_
        rw [← hA1, Nat.pow_succ, ← Nat.div_div_eq_div_mul]; omega
      clear hown' hgrow Hown HA hb hsz
      go_wp2
      go_roundw
      case rel => exact ⟨k + 1, A / 256, z', by omega, by go_num, vi' (by omega), rfl, by omega, by omega, HA1, HO1, hb1⟩
      case measure => simp [intOf]; omega
    · have hconv := own_text HO.out
      obtain ⟨a', n', c', hsl⟩ := own_slice HO.out
      have hkn : n.toNat = k := by omega
      have HE := Lib.hid hkn
      clear hkn
      subst hsl
      go_wp2
      go_ret
      exact ⟨ret_str (by rw [HE.out]), hb⟩

theorem turn_step (l : List UInt8) (m : Nat) (h : m < l.length) : (l.drop m).reverse = (l.drop (m + 1)).reverse ++ [l[m]] := by
  rw [List.drop_eq_getElem_cons h, List.reverse_cons]

set_option maxHeartbeats 1000000 in
set_option maxRecDepth 100000 in
theorem turned_any (s : ByteArray) (hs : s.size ≤ 140737488351232) (w : World) :
    Calls Try.prog 32 #[.string s] w fun e w' => e = .returned (.string (rev s)) ∧ Below w.heap.size w w' := by
  obtain ⟨i0, hi, hz0, hz1, hz2⟩ := info_parts infoByte
  go_enter Try.func32, Try.ntmps32
  go_wp2
  go_loopw [3, 4] (fun sl i wr => ∃ (j : Int) (z : Value), -1 ≤ j ∧ j < s.size ∧ i = .int .i64 j ∧ z = sl ∧ Hid (Own w.heap.size (s.data.toList.drop (j + 1).toNat).reverse z wr) ∧ Below w.heap.size w wr) (fun _ i _ => (intOf i + 1).toNat)
  case atStart => exact ⟨(s.size : Int) - 1, .slice none 0 0, by omega, by omega, rfl, rfl, Lib.hid (by rw [List.drop_of_length_le (by rw [data_len]; omega)]; exact own_nil _ _), Below.refl _ _⟩
  case round =>
    obtain ⟨j, sl, hj0, hj, rfl, rfl, HO, hb⟩ := hrel
    by_cases hlt : 0 ≤ j
    · obtain ⟨m, rfl⟩ := Int.eq_ofNat_of_zero_le hlt
      have hm : m < s.size := by omega
      have hlen : (s.data.toList.drop ((m : Int) + 1).toNat).reverse.length = s.size - m - 1 := by rw [List.length_reverse, List.length_drop, data_len]; omega
      have hown : wr.ownsRow w.heap.size 5 1 sl (s.size - m - 1) (Lib.byteCells (s.data.toList.drop ((m : Int) + 1).toNat).reverse) := by have := HO.out; unfold Own at this; rw [hlen] at this; exact this
      have Hown := Lib.hid hown
      have Hlen := Lib.hid hlen
      clear hown HO hlen
      have hsz := hb.size
      go_wp2_with (at_builtin; refine wpList_append_own _ rfl _ _ 47 rfl w.heap.size 5 i0 (.int .u8 0) 1 1 Try.underlying47 hi hz0 hz1 hz2 rfl (by decide) _ _ _ rfl (Hown.out.alloc _) ⟨wr.heap.size, 0, none⟩ 1 1 [.int .u8 (s[m].toNat : Int)] rfl rfl ?c1 ?c2 ?c3 ?c4 ?c5 ?_)
      case c1 => exact new_one _ _
      case c2 => intro u hu; simp at hu; subst hu; rfl
      case c3 => unfold maxLen; omega
      case c4 => omega
      case c5 => simp; omega
      intro z' w1 hown' hgrow _
      have hb1 := app_below hb hsz Hown.out hgrow
      have HO1 : Hid (Own w.heap.size (s.data.toList.drop ((m : Int) - 1 + 1).toNat).reverse z' w1) := by
        refine Lib.hid ?_
        rw [show ((m : Int) - 1 + 1).toNat = m by omega, turn_step _ m (by rw [data_len]; omega)]
        refine own_one (x := s[m]) (y := (s[m].toNat : Int)) rfl ?_
        have e : ((m : Int) + 1).toNat = m + 1 := by omega
        have hl := Hlen.out
        rw [e] at hl
        rw [hl]
        exact hown'
      clear hown' hgrow Hown hb hsz Hlen
      go_wp2
      go_roundw
      case rel => exact ⟨(m : Int) - 1, z', by omega, by omega, rfl, rfl, HO1, hb1⟩
      case measure => simp [intOf]
    · have hj' : j = -1 := by omega
      subst hj'
      have hconv := own_text HO.out
      obtain ⟨a', n', c', hsl⟩ := own_slice HO.out
      subst hsl
      go_wp2
      go_ret
      exact ⟨rfl, hb⟩

/-- Get, from the highest byte. -/
theorem rget_step (l : List UInt8) (m V : Nat) (h : m < l.length) (hV : Wd.unle (l.drop (m + 1)) = V) : Wd.unle (l.drop m) = 256 * V + l[m].toNat := by
  rw [List.drop_eq_getElem_cons h, Wd.unle, hV]; omega

set_option maxHeartbeats 1000000 in
set_option maxRecDepth 100000 in
theorem rget_ok (s : ByteArray) (h1 : 1 ≤ s.size) (h4 : s.size ≤ 4) (r : Int) (hr : Hid (((Wd.unle s.data.toList : Nat) : Int) = r)) (w : World) :
    Calls Try.prog 15 #[.string s] w fun e w' => e = .returned (.tuple #[.int .u32 r, .int .i64 0]) ∧ w = w' := by
  go_enter Try.func15, Try.ntmps15
  go_wp2
  go_loop [4, 5] (fun v i => ∃ (j V : Int), -1 ≤ j ∧ j < s.size ∧ i = .int .i64 j ∧ v = .int .u32 V ∧ 0 ≤ V ∧ Hid (((Wd.unle (s.data.toList.drop (j + 1).toNat) : Nat) : Int) = V)) (fun _ i => (intOf i + 1).toNat)
  case atStart => exact ⟨(s.size : Int) - 1, 0, by omega, by omega, rfl, rfl, by omega, Lib.hid (by rw [List.drop_of_length_le (by rw [data_len]; omega)]; rfl)⟩
  case round =>
    obtain ⟨j, V, hj0, hj, rfl, rfl, hV0, HV⟩ := hrel
    by_cases hlt : 0 ≤ j
    · obtain ⟨m, rfl⟩ := Int.eq_ofNat_of_zero_le hlt
      have hm : m < s.size := by omega
      have hVlt : V < 16777216 := by
        have h2 := HV.out
        have h3 := Wd.unle_lt (s.data.toList.drop ((m : Int) + 1).toNat)
        have h5 : (s.data.toList.drop ((m : Int) + 1).toNat).length ≤ 3 := by rw [List.length_drop, data_len]; omega
        have h6 : (256 : Nat) ^ (s.data.toList.drop ((m : Int) + 1).toNat).length ≤ 256 ^ 3 := Nat.pow_le_pow_right (by decide) h5
        have h7 : (256 : Nat) ^ 3 = 16777216 := by decide
        omega
      have HS : Hid (((Wd.unle (s.data.toList.drop ((m : Int) - 1 + 1).toNat) : Nat) : Int) = 256 * V + (s[m].toNat : Int)) := by
        have h2 := HV.out
        have e : ((m : Int) + 1).toNat = m + 1 := by omega
        rw [e] at h2
        have h3 := rget_step s.data.toList m _ (by rw [data_len]; omega) rfl
        rw [show ((m : Int) - 1 + 1).toNat = m by omega, h3, ← h2]
        exact Lib.hid (by rw [data_get s m hm]; omega)
      clear HV
      have hbt : (s[m].toNat : Int) < 256 := by have := s[m].toNat_lt; omega
      go_wp2
      go_round
      case rel => exact ⟨(m : Int) - 1, 256 * V + (s[m].toNat : Int), by omega, by omega, rfl, vi' (by omega), by omega, HS⟩
      case measure => simp [intOf]
    · have hj' : j = -1 := by omega
      subst hj'
      go_wp2
      go_ret2
      have e : V = r := by rw [← HV.out, ← hr.out]; rfl
      exact ⟨by rw [e]; rfl, rfl⟩

set_option maxHeartbeats 1000000 in
theorem rget_no (s : ByteArray) (h : s.size < 1 ∨ 4 < s.size) (w : World) :
    Calls Try.prog 15 #[.string s] w fun e w' => e = .returned (.tuple #[.int .u32 0, .int .i64 2]) ∧ w = w' := by
  by_cases h1 : s.size < 1
  · clear h
    go_enter Try.func15, Try.ntmps15
    go_wp2
    go_ret2
    exact ⟨rfl, rfl⟩
  · have h2 : 4 < s.size := by omega
    clear h
    go_enter Try.func15, Try.ntmps15
    go_wp2
    go_ret2
    exact ⟨rfl, rfl⟩

theorem rget_any (s : ByteArray) (w : World) :
    Calls Try.prog 15 #[.string s] w fun e w' => e = .returned (.tuple #[.int .u32 (getV s), .int .i64 (getE s)]) ∧ w = w' := by
  by_cases h : s.size < 1 ∨ 4 < s.size
  · have e1 : getV s = 0 := by unfold getV Wd.getN; rw [data_len, if_pos h]; rfl
    have e2 : getE s = 2 := by unfold getE Wd.getE; rw [data_len, if_pos h]
    rw [e1, e2]
    exact rget_no s h w
  · have e1 : getV s = (Wd.unle s.data.toList : Nat) := by unfold getV Wd.getN; rw [data_len, if_neg h]
    have e2 : getE s = 0 := by unfold getE Wd.getE; rw [data_len, if_neg h]
    rw [e1, e2]
    exact rget_ok s (by omega) (by omega) _ (Lib.hid rfl) w

set_option maxHeartbeats 1000000 in
theorem rgeth_no (s : ByteArray) (h : ¬ (s.size = 2 ∨ s.size = 4)) (w : World) :
    Calls Try.prog 17 #[.string s] w fun e w' => e = .returned (.tuple #[.int .u32 0, .int .i64 2]) ∧ w = w' := by
  have t1 : ((s.size : Int) != 2) = true := by rw [bne_iff_ne]; omega
  have t2 : ((s.size : Int) != 4) = true := by rw [bne_iff_ne]; omega
  clear h
  go_enter Try.func17, Try.ntmps17
  go_wp2
  go_ret2
  exact ⟨rfl, rfl⟩

set_option maxHeartbeats 1000000 in
theorem rgeth_yes (s : ByteArray) (h : s.size = 2 ∨ s.size = 4) (w : World) :
    Calls Try.prog 17 #[.string s] w fun e w' => e = .returned (.tuple #[.int .u32 (getV (rev s)), .int .i64 (getE (rev s))]) ∧ Below w.heap.size w w' := by
  have HR := Lib.hid (fun w => turned_any s (by omega) w)
  have HG := Lib.hid (fun w => rget_any (rev s) w)
  generalize rev s = t at *
  rcases h with h | h
  · have t2 : ((s.size : Int) != 2) = false := by rw [h]; decide
    have Hh := Lib.hid h
    clear h
    go_enter Try.func17, Try.ntmps17
    go_wp2_with (first | (go_at_call 32; refine (HR.out _).mono ?_; rintro e w1 ⟨rfl, hb1⟩) | (go_at_call 15; refine (HG.out _).mono ?_; rintro e w2 ⟨rfl, rfl⟩))
    go_ret2
    exact ⟨rfl, hb1⟩
  · have t2 : ((s.size : Int) != 2) = true := by rw [h]; decide
    have t3 : ((s.size : Int) != 4) = false := by rw [h]; decide
    have Hh := Lib.hid h
    clear h
    go_enter Try.func17, Try.ntmps17
    go_wp2_with (first | (go_at_call 32; refine (HR.out _).mono ?_; rintro e w1 ⟨rfl, hb1⟩) | (go_at_call 15; refine (HG.out _).mono ?_; rintro e w2 ⟨rfl, rfl⟩))
    go_ret2
    exact ⟨rfl, hb1⟩

theorem rgeth_any (s : ByteArray) (w : World) :
    Calls Try.prog 17 #[.string s] w fun e w' => e = .returned (.tuple #[.int .u32 (getHV s), .int .i64 (getHE s)]) ∧ Below w.heap.size w w' := by
  by_cases h : s.size = 2 ∨ s.size = 4
  · have e1 : getHV s = getV (rev s) := by unfold getHV; rw [if_pos h]
    have e2 : getHE s = getE (rev s) := by unfold getHE; rw [if_pos h]
    rw [e1, e2]; exact rgeth_yes s h w
  · have e1 : getHV s = 0 := by unfold getHV; rw [if_neg h]
    have e2 : getHE s = 2 := by unfold getHE; rw [if_neg h]
    rw [e1, e2]
    refine (rgeth_no s h w).mono ?_
    rintro e w' ⟨rfl, rfl⟩
    exact ⟨rfl, Below.refl _ _⟩

set_option maxHeartbeats 1000000 in
set_option maxRecDepth 100000 in
theorem rput1 (x : Int) (h0 : 0 ≤ x) (h1 : x < 256) (w : World) :
    Calls Try.prog 11 #[.int .u32 x, .int .i64 1] w fun e w' => e = .returned (.tuple #[.string ⟨(Wd.le x.toNat 1).toArray⟩, .int .i64 0]) ∧ Below w.heap.size w w' := by
  have HC : ∀ w, Calls Try.prog 30 #[.int .u32 x, .int .i64 1] w fun e w' => e = .returned (.string ⟨(Wd.le x.toNat 1).toArray⟩) ∧ Below w.heap.size w w' := fun w => bytes_any x 1 h0 (by omega) (by decide) (by decide) w
  generalize (ByteArray.mk (Wd.le x.toNat 1).toArray) = t at *
  have HH := Lib.hid HC
  clear HC
  go_enter Try.func11, Try.ntmps11
  go_wp2_with (go_at_call 30; refine (HH.out _).mono ?_; rintro e w1 ⟨rfl, hb1⟩)
  go_ret2
  exact ⟨rfl, hb1⟩

set_option maxHeartbeats 1000000 in
set_option maxRecDepth 100000 in
theorem rput1_long (x : Int) (h1 : 256 ≤ x) (h2 : x < 4294967296) (w : World) :
    Calls Try.prog 11 #[.int .u32 x, .int .i64 1] w fun e w' => e = .returned (.tuple #[.string ⟨#[]⟩, .int .i64 5]) ∧ w = w' := by
  go_enter Try.func11, Try.ntmps11
  go_wp2
  go_ret2
  exact ⟨rfl, rfl⟩

set_option maxHeartbeats 1000000 in
set_option maxRecDepth 100000 in
theorem rput2 (x : Int) (h0 : 0 ≤ x) (h1 : x < 65536) (w : World) :
    Calls Try.prog 11 #[.int .u32 x, .int .i64 2] w fun e w' => e = .returned (.tuple #[.string ⟨(Wd.le x.toNat 2).toArray⟩, .int .i64 0]) ∧ Below w.heap.size w w' := by
  have HC : ∀ w, Calls Try.prog 30 #[.int .u32 x, .int .i64 2] w fun e w' => e = .returned (.string ⟨(Wd.le x.toNat 2).toArray⟩) ∧ Below w.heap.size w w' := fun w => bytes_any x 2 h0 (by omega) (by decide) (by decide) w
  generalize (ByteArray.mk (Wd.le x.toNat 2).toArray) = t at *
  have HH := Lib.hid HC
  clear HC
  go_enter Try.func11, Try.ntmps11
  go_wp2_with (go_at_call 30; refine (HH.out _).mono ?_; rintro e w1 ⟨rfl, hb1⟩)
  go_ret2
  exact ⟨rfl, hb1⟩

set_option maxHeartbeats 1000000 in
set_option maxRecDepth 100000 in
theorem rput2_long (x : Int) (h1 : 65536 ≤ x) (h2 : x < 4294967296) (w : World) :
    Calls Try.prog 11 #[.int .u32 x, .int .i64 2] w fun e w' => e = .returned (.tuple #[.string ⟨#[]⟩, .int .i64 5]) ∧ w = w' := by
  go_enter Try.func11, Try.ntmps11
  go_wp2
  go_ret2
  exact ⟨rfl, rfl⟩

set_option maxHeartbeats 1000000 in
set_option maxRecDepth 100000 in
theorem rput3 (x : Int) (h0 : 0 ≤ x) (h1 : x < 16777216) (w : World) :
    Calls Try.prog 11 #[.int .u32 x, .int .i64 3] w fun e w' => e = .returned (.tuple #[.string ⟨(Wd.le x.toNat 3).toArray⟩, .int .i64 0]) ∧ Below w.heap.size w w' := by
  have HC : ∀ w, Calls Try.prog 30 #[.int .u32 x, .int .i64 3] w fun e w' => e = .returned (.string ⟨(Wd.le x.toNat 3).toArray⟩) ∧ Below w.heap.size w w' := fun w => bytes_any x 3 h0 (by omega) (by decide) (by decide) w
  generalize (ByteArray.mk (Wd.le x.toNat 3).toArray) = t at *
  have HH := Lib.hid HC
  clear HC
  go_enter Try.func11, Try.ntmps11
  go_wp2_with (go_at_call 30; refine (HH.out _).mono ?_; rintro e w1 ⟨rfl, hb1⟩)
  go_ret2
  exact ⟨rfl, hb1⟩

set_option maxHeartbeats 1000000 in
set_option maxRecDepth 100000 in
theorem rput3_long (x : Int) (h1 : 16777216 ≤ x) (h2 : x < 4294967296) (w : World) :
    Calls Try.prog 11 #[.int .u32 x, .int .i64 3] w fun e w' => e = .returned (.tuple #[.string ⟨#[]⟩, .int .i64 5]) ∧ w = w' := by
  go_enter Try.func11, Try.ntmps11
  go_wp2
  go_ret2
  exact ⟨rfl, rfl⟩

set_option maxHeartbeats 1000000 in
set_option maxRecDepth 100000 in
theorem rput4 (x : Int) (h0 : 0 ≤ x) (h1 : x < 4294967296) (w : World) :
    Calls Try.prog 11 #[.int .u32 x, .int .i64 4] w fun e w' => e = .returned (.tuple #[.string ⟨(Wd.le x.toNat 4).toArray⟩, .int .i64 0]) ∧ Below w.heap.size w w' := by
  have HC : ∀ w, Calls Try.prog 30 #[.int .u32 x, .int .i64 4] w fun e w' => e = .returned (.string ⟨(Wd.le x.toNat 4).toArray⟩) ∧ Below w.heap.size w w' := fun w => bytes_any x 4 h0 (by omega) (by decide) (by decide) w
  generalize (ByteArray.mk (Wd.le x.toNat 4).toArray) = t at *
  have HH := Lib.hid HC
  clear HC
  go_enter Try.func11, Try.ntmps11
  go_wp2_with (go_at_call 30; refine (HH.out _).mono ?_; rintro e w1 ⟨rfl, hb1⟩)
  go_ret2
  exact ⟨rfl, hb1⟩

set_option maxHeartbeats 1000000 in
theorem rput_arg (x n : Int) (h : n < 1 ∨ 4 < n) (w : World) :
    Calls Try.prog 11 #[.int .u32 x, .int .i64 n] w fun e w' => e = .returned (.tuple #[.string ⟨#[]⟩, .int .i64 2]) ∧ w = w' := by
  by_cases h1 : n < 1
  · clear h
    go_enter Try.func11, Try.ntmps11
    go_wp2
    go_ret2
    exact ⟨rfl, rfl⟩
  · have h2 : 4 < n := by omega
    clear h
    go_enter Try.func11, Try.ntmps11
    go_wp2
    go_ret2
    exact ⟨rfl, rfl⟩

theorem rput_any (x n : Int) (h0 : 0 ≤ x) (h1 : x < 4294967296) (w : World) :
    Calls Try.prog 11 #[.int .u32 x, .int .i64 n] w fun e w' => e = .returned (.tuple #[.string (putS x n), .int .i64 (putE x n)]) ∧ Below w.heap.size w w' := by
  by_cases ha : n < 1 ∨ 4 < n
  · have e1 : putE x n = 2 := by unfold putE Wd.putE; rw [if_pos ha]
    have e2 : putS x n = ⟨#[]⟩ := by unfold putS Wd.putL Wd.putE; rw [if_pos ha, if_neg (by decide)]
    rw [e1, e2]
    refine (rput_arg x n ha w).mono ?_
    rintro e w' ⟨rfl, rfl⟩
    exact ⟨rfl, Below.refl _ _⟩
  · have hn : n = 1 ∨ n = 2 ∨ n = 3 ∨ n = 4 := by omega
    rcases hn with rfl | rfl | rfl | rfl
    · by_cases hl : 256 ≤ x
      · have e1 : putE x 1 = 5 := by unfold putE Wd.putE; rw [if_neg (by omega), if_pos (by show 256 ≤ x.toNat; omega)]
        have e2 : putS x 1 = ⟨#[]⟩ := by
          have : Wd.putE x.toNat 1 = 5 := e1
          unfold putS Wd.putL; rw [this, if_neg (by decide)]
        rw [e1, e2]
        refine (rput1_long x hl h1 w).mono ?_
        rintro e w' ⟨rfl, rfl⟩
        exact ⟨rfl, Below.refl _ _⟩
      · have e1 : putE x 1 = 0 := by unfold putE Wd.putE; rw [if_neg (by omega), if_neg (by show ¬ 256 ≤ x.toNat; omega)]
        have e2 : putS x 1 = ⟨(Wd.le x.toNat 1).toArray⟩ := by
          have : Wd.putE x.toNat 1 = 0 := e1
          unfold putS Wd.putL; rw [this, if_pos rfl]; rfl
        rw [e1, e2]
        exact rput1 x h0 (by omega) w
    · by_cases hl : 65536 ≤ x
      · have e1 : putE x 2 = 5 := by unfold putE Wd.putE; rw [if_neg (by omega), if_pos (by show 65536 ≤ x.toNat; omega)]
        have e2 : putS x 2 = ⟨#[]⟩ := by
          have : Wd.putE x.toNat 2 = 5 := e1
          unfold putS Wd.putL; rw [this, if_neg (by decide)]
        rw [e1, e2]
        refine (rput2_long x hl h1 w).mono ?_
        rintro e w' ⟨rfl, rfl⟩
        exact ⟨rfl, Below.refl _ _⟩
      · have e1 : putE x 2 = 0 := by unfold putE Wd.putE; rw [if_neg (by omega), if_neg (by show ¬ 65536 ≤ x.toNat; omega)]
        have e2 : putS x 2 = ⟨(Wd.le x.toNat 2).toArray⟩ := by
          have : Wd.putE x.toNat 2 = 0 := e1
          unfold putS Wd.putL; rw [this, if_pos rfl]; rfl
        rw [e1, e2]
        exact rput2 x h0 (by omega) w
    · by_cases hl : 16777216 ≤ x
      · have e1 : putE x 3 = 5 := by unfold putE Wd.putE; rw [if_neg (by omega), if_pos (by show 16777216 ≤ x.toNat; omega)]
        have e2 : putS x 3 = ⟨#[]⟩ := by
          have : Wd.putE x.toNat 3 = 5 := e1
          unfold putS Wd.putL; rw [this, if_neg (by decide)]
        rw [e1, e2]
        refine (rput3_long x hl h1 w).mono ?_
        rintro e w' ⟨rfl, rfl⟩
        exact ⟨rfl, Below.refl _ _⟩
      · have e1 : putE x 3 = 0 := by unfold putE Wd.putE; rw [if_neg (by omega), if_neg (by show ¬ 16777216 ≤ x.toNat; omega)]
        have e2 : putS x 3 = ⟨(Wd.le x.toNat 3).toArray⟩ := by
          have : Wd.putE x.toNat 3 = 0 := e1
          unfold putS Wd.putL; rw [this, if_pos rfl]; rfl
        rw [e1, e2]
        exact rput3 x h0 (by omega) w
    · have e1 : putE x 4 = 0 := by unfold putE Wd.putE; rw [if_neg (by omega), if_neg (by show ¬ 4294967296 ≤ x.toNat; omega)]
      have e2 : putS x 4 = ⟨(Wd.le x.toNat 4).toArray⟩ := by
        have : Wd.putE x.toNat 4 = 0 := e1
        unfold putS Wd.putL; rw [this, if_pos rfl]; rfl
      rw [e1, e2]
      exact rput4 x h0 (by omega) w

set_option maxHeartbeats 1000000 in
theorem rputh_no (x n : Int) (h : ¬ (n = 2 ∨ n = 4)) (w : World) :
    Calls Try.prog 13 #[.int .u32 x, .int .i64 n] w fun e w' => e = .returned (.tuple #[.string ⟨#[]⟩, .int .i64 2]) ∧ w = w' := by
  have t1 : (n != 2) = true := by rw [bne_iff_ne]; omega
  have t2 : (n != 4) = true := by rw [bne_iff_ne]; omega
  clear h
  go_enter Try.func13, Try.ntmps13
  go_wp2
  go_ret2
  exact ⟨rfl, rfl⟩

set_option maxHeartbeats 1000000 in
theorem rputh_yes (x n : Int) (h0 : 0 ≤ x) (h1 : x < 4294967296) (h : n = 2 ∨ n = 4) (w : World) :
    Calls Try.prog 13 #[.int .u32 x, .int .i64 n] w fun e w' => e = .returned (.tuple #[.string (rev (putS x n)), .int .i64 (putE x n)]) ∧ Below w.heap.size w w' := by
  have HP := Lib.hid (fun w => rput_any x n h0 h1 w)
  have HR := Lib.hid (fun w => turned_any (putS x n) (by have := putS_size x n; omega) w)
  generalize putS x n = t at *
  generalize putE x n = u at *
  clear h0 h1
  rcases h with rfl | rfl
  all_goals
    go_enter Try.func13, Try.ntmps13
    go_wp2_with (first | (go_at_call 11; refine (HP.out _).mono ?_; rintro e w1 ⟨rfl, hb1⟩) | (go_at_call 32; refine (HR.out _).mono ?_; rintro e w2 ⟨rfl, hb2⟩))
    go_ret2
    exact ⟨rfl, hb1.trans (hb2.mono hb1.size)⟩

theorem rputh_any (x n : Int) (h0 : 0 ≤ x) (h1 : x < 4294967296) (w : World) :
    Calls Try.prog 13 #[.int .u32 x, .int .i64 n] w fun e w' => e = .returned (.tuple #[.string (putHS x n), .int .i64 (putHE x n)]) ∧ Below w.heap.size w w' := by
  by_cases h : n = 2 ∨ n = 4
  · have e1 : putHS x n = rev (putS x n) := by unfold putHS; rw [if_pos h]
    have e2 : putHE x n = putE x n := by unfold putHE; rw [if_pos h]
    rw [e1, e2]; exact rputh_yes x n h0 h1 h w
  · have e1 : putHS x n = ⟨#[]⟩ := by unfold putHS; rw [if_neg h]
    have e2 : putHE x n = 2 := by unfold putHE; rw [if_neg h]
    rw [e1, e2]
    refine (rputh_no x n h w).mono ?_
    rintro e w' ⟨rfl, rfl⟩
    exact ⟨rfl, Below.refl _ _⟩

end Go.Proofs.Ythagofalneadjaa
