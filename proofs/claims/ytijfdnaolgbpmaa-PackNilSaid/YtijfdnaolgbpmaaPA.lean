/- The document's Num and Text (package aediculeref07). -/
import Derived.Test.YtijfdnaolgbpmaaOB
import Derived.Test.YtijfdnaolgbpmaaPM
import Derived.LoopTactic
set_option linter.unusedVariables false
namespace Go.Proofs.Ytijfdnaolgbpmaa
open Go Go.RowKit

/-- What a call of Num makes. -/
def numS (x n : Int) : ByteArray := tx (Wd.putL x.toNat n)
def numE (x n : Int) : Int := Wd.putE x.toNat n
theorem pow_div (x k : Nat) : (x / 256 ^ k = 0) ↔ ¬ 256 ^ k ≤ x := by
  have h : 0 < 256 ^ k := Nat.pow_pos (by decide)
  rw [Nat.div_eq_zero_iff]
  omega

set_option maxHeartbeats 1000000 in
set_option maxRecDepth 100000 in
theorem rnum_bad (x n : Int) (h : n < 1 ∨ 4 < n) (w : World) : Calls Try.prog 10 #[.int .u32 x, .int .i64 n] w fun e w' => e = .returned (.tuple #[.string (tx []), .int .i64 2]) ∧ Below w.heap.size w w' := by
  rcases h with h | h
  · go_enter Try.func10, Try.ntmps10
    go_wp2
    go_ret2
    exact ⟨rfl, Below.refl _ _⟩
  · have h1 : ¬ n < 1 := by omega
    go_enter Try.func10, Try.ntmps10
    go_wp2
    go_ret2
    exact ⟨rfl, Below.refl _ _⟩

set_option maxHeartbeats 1000000 in
set_option maxRecDepth 100000 in
theorem rnum_good (x n : Int) (h0 : 0 ≤ x) (h1 : x < 4294967296) (hn0 : 1 ≤ n) (hn : n ≤ 4) (w : World) :
    Calls Try.prog 10 #[.int .u32 x, .int .i64 n] w fun e w' => e = .returned (.tuple #[.string (numS x n), .int .i64 (numE x n)]) ∧ Below w.heap.size w w' := by
  obtain ⟨i0, hi, hz0, hz1, hz2⟩ := info_parts infoByte
  have HX := Lib.hid (show ((x.toNat : Nat) : Int) = x from by omega)
  go_enter Try.func10, Try.ntmps10
  go_wp2
  go_loopw [0, 6, 7] (fun t0 sl i wr => ∃ (k : Nat) (A : Int) (z : Value), (k : Int) ≤ n ∧ i = .int .i64 k ∧ t0 = .int .u32 A ∧ z = sl ∧ 0 ≤ A ∧ A < 4294967296 ∧ Hid (((x.toNat / 256 ^ k : Nat) : Int) = A) ∧ Hid (Own w.heap.size (Wd.le x.toNat k) z wr) ∧ Below w.heap.size w wr) (fun _ _ i _ => (n - intOf i).toNat)
  case atStart => exact ⟨0, x, .slice none 0 0, by omega, rfl, rfl, rfl, h0, h1, Lib.hid (by simp; omega), Lib.hid (own_nil _ _), Below.refl _ _⟩
  case round =>
    obtain ⟨k, A, sl, hk, rfl, rfl, rfl, hA0, hA, HA, HO, hb⟩ := hrel
    by_cases hlt : (k : Int) < n
    · have hown : wr.ownsRow w.heap.size 5 1 sl k (Lib.byteCells (Wd.le x.toNat k)) := by have := HO.out; unfold Own at this; rw [Wd.le_length] at this; exact this
      have Hown := Lib.hid hown
      clear hown HO
      have hsz := hb.size
      go_wp2_with (at_builtin; refine wpList_append_own _ rfl _ _ 53 rfl w.heap.size 5 i0 (.int .u8 0) 1 1 Try.underlying53 hi hz0 hz1 hz2 rfl (by decide) _ _ _ rfl (Hown.out.alloc _) ⟨wr.heap.size, 0, none⟩ 1 1 [.int .u8 (A % 256)] rfl rfl ?c1 ?c2 ?c3 ?c4 ?c5 ?_)
      case c1 => exact new_one _ _
      case c2 => intro u hu; simp at hu; subst hu; rfl
      case c3 => unfold maxLen; omega
      case c4 => omega
      case c5 => simp; omega
      intro z' w1 hown' hgrow _
      have hb1 := app_below hb hsz Hown.out hgrow
      have HO1 : Hid (Own w.heap.size (Wd.le x.toNat (k + 1)) z' w1) := by
        have hA1 := HA.out
        refine Lib.hid (own_one (x := UInt8.ofNat (x.toNat / 256 ^ k)) (y := A % 256) ?_ ?_)
        · rw [Wd.ofNat_toNat, ← hA1]; omega
        · rw [Wd.le_length]; exact hown'
      have HA1 : Hid (((x.toNat / 256 ^ (k + 1) : Nat) : Int) = A / 256) := by
        have hA1 := HA.out
        refine Lib.hid ?_
        rw [← hA1, Nat.pow_succ, ← Nat.div_div_eq_div_mul]; omega
      clear hown' hgrow Hown HA hb hsz
      go_wp2
      go_roundw
      case rel => exact ⟨k + 1, A / 256, z', by omega, by go_num, vi' (by omega), rfl, by omega, by omega, HA1, HO1, hb1⟩
      case measure => simp [intOf]; omega
    · have hkn : n.toNat = k := by omega
      have hpd := pow_div x.toNat k
      have hA1 := HA.out
      by_cases hz : A = 0
      · have e1 : numE x n = 0 := by unfold numE Wd.putE; rw [if_neg (by omega), hkn, if_neg (hpd.1 (by omega))]
        have e2 : numS x n = tx (Wd.le x.toNat k) := by
          have : Wd.putE x.toNat n = 0 := e1
          unfold numS Wd.putL; rw [this, if_pos rfl, hkn]
        have hconv := own_text HO.out
        obtain ⟨a', n', c', hsl⟩ := own_slice HO.out
        have H1 := Lib.hid e1
        have H2 := Lib.hid e2
        have hzb : (A != 0) = false := by simp [hz]
        clear e1 e2 hkn hpd hA1 hz HA HO
        subst hsl
        go_wp2
        go_ret2
        exact ⟨by rw [H1.out, H2.out]; rfl, hb⟩
      · have e1 : numE x n = 5 := by unfold numE Wd.putE; rw [if_neg (by omega), hkn, if_pos (by have := mt hpd.2; omega)]
        have e2 : numS x n = tx [] := by
          have : Wd.putE x.toNat n = 5 := e1
          unfold numS Wd.putL; rw [this, if_neg (by decide)]
        have H1 := Lib.hid e1
        have H2 := Lib.hid e2
        have hzb : (A != 0) = true := by rw [bne_iff_ne]; exact hz
        clear e1 e2 hkn hpd hA1 hz HA HO
        go_wp2
        go_ret2
        exact ⟨by rw [H1.out, H2.out]; rfl, hb⟩
theorem rnum_any (x n : Int) (h0 : 0 ≤ x) (h1 : x < 4294967296) (w : World) :
    Calls Try.prog 10 #[.int .u32 x, .int .i64 n] w fun e w' => e = .returned (.tuple #[.string (numS x n), .int .i64 (numE x n)]) ∧ Below w.heap.size w w' := by
  by_cases h : n < 1 ∨ 4 < n
  · have e1 : numE x n = 2 := by unfold numE Wd.putE; rw [if_pos h]
    have e2 : numS x n = tx [] := by
      have : Wd.putE x.toNat n = 2 := e1
      unfold numS Wd.putL; rw [this, if_neg (by decide)]
    rw [e1, e2]
    exact rnum_bad x n h w
  · exact rnum_good x n h0 h1 (by omega) (by omega) w

/-- string([]byte{..}): a text of the bytes that were laid into a new array. -/
theorem text_new (W : World) (l : List UInt8) (cs : List Value) (hcs : cs = Lib.byteCells l) (n : Nat) (hn : n = l.length) :
    (convert 53 9 (.slice (some ⟨W.heap.size, 0, none⟩) n n)).run Try.prog (W.alloc (.cells cs.toArray 5)) = .ok (.string (tx l)) (W.alloc (.cells cs.toArray 5)) := by
  subst hcs hn
  have hg : (W.alloc (.cells (Lib.byteCells l).toArray 5)).heap[W.heap.size]? = some (.cells (Lib.byteCells l).toArray 5 (0, 0)) := heap_alloc_new W _
  exact run_convert_bytes_back (P := Try.prog) _ 53 9 5 ⟨W.heap.size, 0, none⟩ l.length l Try.underlying53 Try.underlying5 Try.underlying9 (Lib.bytes_of_row hg (by rw [List.take_of_length_le (by rw [Lib.byteCells_length]; exact Nat.le_refl _)]))
theorem le2_cells (n : Nat) (h : n < 65536) : [Value.int .u8 ((n : Int) % 256), Value.int .u8 ((n : Int) / 256)] = Lib.byteCells (Wd.le n 2) := by
  have e1 : (n : Int) % 256 = ((UInt8.ofNat (n / 256 ^ 0)).toNat : Int) := by rw [Wd.ofNat_toNat]; simp
  have e2 : (n : Int) / 256 = ((UInt8.ofNat (n / 256 ^ 1)).toNat : Int) := by rw [Wd.ofNat_toNat]; simp; omega
  rw [e1, e2]
  rfl
def txtS (s : ByteArray) : ByteArray := if Pk.txtE (by' s) = 0 then tx (Pk.txt (by' s)) else tx []
set_option maxHeartbeats 1000000 in
set_option maxRecDepth 100000 in
theorem rtext_any (s : ByteArray) (hs : s.size ≤ 140737488355328) (w : World) :
    Calls Try.prog 12 #[.string s] w fun e w' => e = .returned (.tuple #[.string (txtS s), .int .i64 (Pk.txtE (by' s))]) ∧ Below w.heap.size w w' := by
  by_cases h : 65535 < s.size
  · have e1 : Pk.txtE (by' s) = 5 := by unfold Pk.txtE; rw [by_length, if_pos h]
    have e2 : txtS s = tx [] := by unfold txtS; rw [e1, if_neg (by decide)]
    rw [e1, e2]
    have h' : (65535 : Int) < (s.size : Int) := by omega
    clear e1 e2 h
    go_enter Try.func12, Try.ntmps12
    go_wp2
    go_ret2
    exact ⟨rfl, Below.refl _ _⟩
  · have e1 : Pk.txtE (by' s) = 0 := by unfold Pk.txtE; rw [by_length, if_neg h]
    have e2 : txtS s = tx (Wd.le s.size 2) ++ s := by
      unfold txtS
      rw [e1, if_pos rfl]
      have : s = tx (by' s) := (tx_by s).symm
      conv => rhs; rw [this]
      rw [tx_append, tx_size]
      rfl
    rw [e1, e2]
    have hcv := text_new w (Wd.le s.size 2) [.int .u8 ((s.size : Int) % 256), .int .u8 ((s.size : Int) / 256)] (le2_cells s.size (by omega)) 2 (by rw [Wd.le_length])
    have h' : (s.size : Int) ≤ 65535 := by omega
    have hz : (tx (Wd.le s.size 2)).size = 2 := by rw [tx_size, Wd.le_length]
    have hb : Below w.heap.size w (w.alloc (.cells [.int .u8 ((s.size : Int) % 256), .int .u8 ((s.size : Int) / 256)].toArray 5)) := (Below.refl _ _).alloc (Nat.le_refl _) _
    have HB := Lib.hid hb
    obtain ⟨T, hT⟩ : ∃ T, T = tx (Wd.le s.size 2) := ⟨_, rfl⟩
    rw [← hT] at hcv hz ⊢
    have hzi : (T.size : Int) = 2 := by omega
    clear e1 e2 h hT hb hz hs
    go_enter Try.func12, Try.ntmps12
    go_wp2
    go_ret2
    exact ⟨rfl, HB.out⟩
end Go.Proofs.Ytijfdnaolgbpmaa
