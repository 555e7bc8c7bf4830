/- WordBack answers true for every number, every count, and every two texts: what was put is got, and what was told in digits is read, and the other way round. No condition. -/
import Derived.Test.YthagofalneadjaaRows
import Derived.Test.YthagofalneadjaaK
import Derived.Test.YthagofalneadjaaL
import Derived.ProofKit
import Derived.OpenShut
import Derived.ShutString
import Derived.SizedLaws
set_option linter.unusedVariables false
namespace Go.Proofs.Ythagofalneadjaa
open Go.ChangeShapes Go.WideShapes Go.ChangeAt Go.RowKit
open Go.ChangeMaps (open_string shut_string)

theorem wd_putE (x : Int) (k : Nat) (hk : 1 ≤ k) (hk4 : k ≤ 4) (h0 : 0 ≤ x) (h : x < ((256 ^ k : Nat) : Int)) : putE x k = 0 := by
  unfold putE Wd.putE
  rw [if_neg (by omega), if_neg (by rw [Int.toNat_natCast]; omega)]
theorem wd_putS (x : Int) (k : Nat) (hk : 1 ≤ k) (hk4 : k ≤ 4) (h0 : 0 ≤ x) (h : x < ((256 ^ k : Nat) : Int)) : putS x k = ⟨(Wd.le x.toNat k).toArray⟩ := by
  have := wd_putE x k hk hk4 h0 h
  unfold putE at this
  unfold putS Wd.putL
  rw [this, if_pos rfl, Int.toNat_natCast]
theorem mk_size (l : List UInt8) : (ByteArray.mk l.toArray).size = l.length := by
  show l.toArray.size = _
  simp
theorem mk_list (l : List UInt8) : (ByteArray.mk l.toArray).data.toList = l := by simp
theorem mk_data (s : ByteArray) : (ByteArray.mk s.data.toList.toArray) = s := by simp
theorem getE_ok (l : List UInt8) (h1 : 1 ≤ l.length) (h4 : l.length ≤ 4) : getE ⟨l.toArray⟩ = 0 := by
  unfold getE Wd.getE
  rw [mk_list, if_neg (by omega)]
theorem getV_ok (l : List UInt8) (h1 : 1 ≤ l.length) (h4 : l.length ≤ 4) : getV ⟨l.toArray⟩ = (Wd.unle l : Nat) := by
  unfold getV Wd.getN
  rw [mk_list, if_neg (by omega)]

/-- Put of what fits, and Get of that. -/
theorem put_fits (x : Int) (k : Nat) (hk : 1 ≤ k) (hk4 : k ≤ 4) (h0 : 0 ≤ x) (h : x < ((256 ^ k : Nat) : Int)) (h32 : x < 4294967296) (w : World) :
    ∃ t : ByteArray, t.size = k ∧ (∀ w, Calls Try.prog 10 #[.int .u32 x, .int .i64 (k : Int)] w fun e w' => e = .returned (.tuple #[.string t, .int .i64 0]) ∧ Below w.heap.size w w') ∧
      (∀ w, Calls Try.prog 14 #[.string t] w fun e w' => e = .returned (.tuple #[.int .u32 x, .int .i64 0]) ∧ w = w') := by
  refine ⟨putS x k, ?_, ?_, ?_⟩
  · rw [wd_putS x k hk hk4 h0 h, mk_size, Wd.le_length]
  · intro w
    have := put_any x k h0 h32 w
    rw [wd_putE x k hk hk4 h0 h] at this
    exact this
  · intro w
    have hs : (putS x k).size = k := by rw [wd_putS x k hk hk4 h0 h, mk_size, Wd.le_length]
    have := get_any (putS x k) (by omega) w
    rw [wd_putS x k hk hk4 h0 h, getE_ok _ (by rw [Wd.le_length]; omega) (by rw [Wd.le_length]; omega), getV_ok _ (by rw [Wd.le_length]; omega) (by rw [Wd.le_length]; omega), Wd.unle_le,
      Nat.mod_eq_of_lt (by omega), Int.toNat_of_nonneg h0] at this
    rw [wd_putS x k hk hk4 h0 h]
    exact this

/-- PutHigh of any number in four bytes, and GetHigh of that. -/
theorem puth_fits (x : Int) (h0 : 0 ≤ x) (h32 : x < 4294967296) :
    ∃ t : ByteArray, t.size = 4 ∧ (∀ w, Calls Try.prog 12 #[.int .u32 x, .int .i64 4] w fun e w' => e = .returned (.tuple #[.string t, .int .i64 0]) ∧ Below w.heap.size w w') ∧
      (∀ w, Calls Try.prog 16 #[.string t] w fun e w' => e = .returned (.tuple #[.int .u32 x, .int .i64 0]) ∧ Below w.heap.size w w') := by
  have hb : x < ((256 ^ 4 : Nat) : Int) := by show x < 4294967296; exact h32
  have e0 : putS x 4 = ⟨(Wd.le x.toNat 4).toArray⟩ := wd_putS x 4 (by decide) (by decide) h0 hb
  have e1 : putE x 4 = 0 := wd_putE x 4 (by decide) (by decide) h0 hb
  have hs : (rev (putS x 4)).size = 4 := by rw [rev_size, e0, mk_size, Wd.le_length]
  refine ⟨rev (putS x 4), hs, ?_, ?_⟩
  · intro w
    have := puth_yes x 4 h0 h32 (Or.inr rfl) w
    rw [e1] at this
    exact this
  · intro w
    have h := geth_yes (rev (putS x 4)) (Or.inr hs) w
    have er : rev (rev (putS x 4)) = putS x 4 := by
      unfold rev; simp
    rw [er, e0, getE_ok _ (by rw [Wd.le_length]; omega) (by rw [Wd.le_length]; omega), getV_ok _ (by rw [Wd.le_length]; omega) (by rw [Wd.le_length]; omega), Wd.unle_le,
      Nat.mod_eq_of_lt (by show x.toNat < 4294967296; omega), Int.toNat_of_nonneg h0] at h
    rw [e0]
    exact h

theorem hexS_size (s : ByteArray) : (hexS s).size = 2 * s.size := by
  unfold hexS; rw [mk_size, Wd.hexL_length]; rfl

/-- Hex, and Unhex of that. -/
theorem hex_back (s : ByteArray) (hs : s.size ≤ 4096) (w : World) :
    Calls Try.prog 18 #[.string (hexS s)] w fun e w' => e = .returned (.tuple #[.string s, .int .i64 0]) ∧ Below w.heap.size w w' := by
  have h := unhex_any (hexS s) (by rw [hexS_size]; omega) w
  have e1 : unhexS (hexS s) = s := by
    unfold unhexS Wd.unhexO hexS; rw [mk_list, Wd.unhexL_hexL]; simp
  have e2 : unhexE (hexS s) = 0 := by
    unfold unhexE Wd.unhexE hexS; rw [mk_list, Wd.unhexL_hexL]; rfl
  rw [e1, e2] at h
  exact h

set_option maxHeartbeats 8000000 in
set_option maxRecDepth 100000 in
theorem back_1n (x n : Int) (s d : ByteArray) (h0 : 0 ≤ x) (h32 : x < 4294967296) (hn0 : 0 ≤ n) (hn : n < 256) (hm : n % 4 = 0) (hsz : s.size + d.size ≤ 4096) (hu : Wd.unhexL d.data.toList = none) (w : World) :
    Calls Try.prog 6 #[.int .u32 x, .int .u8 n, .string s, .string d] w fun e w' => e = .returned (.bool true) ∧ Below w.heap.size w w' := by
  have hb := Below.refl w.heap.size w
  obtain ⟨t, ht, P1, P2⟩ := put_fits (x % 256) 1 (by decide) (by decide) (by omega) (by show (x % 256) < 256; omega) (by omega) w
  have P1' : ∀ w, Calls Try.prog 10 #[.int .u32 (x % 256), .int .i64 1] w fun e w' => e = .returned (.tuple #[.string t, .int .i64 0]) ∧ Below w.heap.size w w' := P1
  have ts : ((t.size : Int) != 1) = false := by rw [ht]; decide
  obtain ⟨t4, ht4, P3, P4⟩ := puth_fits x h0 h32
  have P5 : ∀ w, Calls Try.prog 20 #[.string s] w fun e w' => e = .returned (.string (hexS s)) ∧ Below w.heap.size w w' := fun w => hex_call s (by omega) w
  have P6 : ∀ w, Calls Try.prog 18 #[.string (hexS s)] w fun e w' => e = .returned (.tuple #[.string s, .int .i64 0]) ∧ Below w.heap.size w w' := fun w => hex_back s (by omega) w
  have tx : (((hexS s).size : Int) != 2 * (s.size : Int)) = false := by rw [hexS_size, bne_eq_false_iff_eq]; omega
  have P7 : ∀ w, Calls Try.prog 18 #[.string d] w fun e w' => e = .returned (.tuple #[.string ⟨#[]⟩, .int .i64 2]) ∧ Below w.heap.size w w' := by
    intro w
    have h := unhex_any d (by omega) w
    have e1 : unhexS d = ⟨#[]⟩ := by unfold unhexS Wd.unhexO; rw [hu]; rfl
    have e2 : unhexE d = 2 := by unfold unhexE Wd.unhexE; rw [hu]; rfl
    rw [e1, e2] at h
    exact h
  generalize hexS s = hx at *
  have H1 := Lib.hid P1'
  have H2 := Lib.hid P2
  have H3 := Lib.hid P3
  have H4 := Lib.hid P4
  have H5 := Lib.hid P5
  have H6 := Lib.hid P6
  have H7 := Lib.hid P7
  clear P1 P1' P2 P3 P4 P5 P6 P7 ht ht4 hu 
  have hsz' : (s.size : Int) + (d.size : Int) ≤ 4096 := by omega
  clear hsz
  go_enter Try.func6, Try.ntmps6
  go_wp2_with fail
  refine (H1.out _).mono ?_; rintro e v1 ⟨rfl, q⟩
  replace hb := hb.trans (q.mono hb.size); clear q
  go_wp2_with fail
  refine (H2.out _).mono ?_; rintro e v2 ⟨rfl, rfl⟩
  go_wp2_with fail
  refine (H3.out _).mono ?_; rintro e v3 ⟨rfl, q⟩
  replace hb := hb.trans (q.mono hb.size); clear q
  go_wp2_with fail
  refine (H4.out _).mono ?_; rintro e v4 ⟨rfl, q⟩
  replace hb := hb.trans (q.mono hb.size); clear q
  go_wp2_with fail
  refine (H5.out _).mono ?_; rintro e v5 ⟨rfl, q⟩
  replace hb := hb.trans (q.mono hb.size); clear q
  go_wp2_with fail
  refine (H6.out _).mono ?_; rintro e v6 ⟨rfl, q⟩
  replace hb := hb.trans (q.mono hb.size); clear q
  go_wp2_with fail
  refine (H5.out _).mono ?_; rintro e v7 ⟨rfl, q⟩
  replace hb := hb.trans (q.mono hb.size); clear q
  go_wp2_with fail
  refine (H7.out _).mono ?_; rintro e v8 ⟨rfl, q⟩
  replace hb := hb.trans (q.mono hb.size); clear q
  go_wp2_with fail
  refine (alive_any _).mono ?_; rintro e v9 ⟨rfl, q⟩
  replace hb := hb.trans (q.mono hb.size); clear q
  go_wp2
  go_ret
  exact ⟨rfl, hb⟩

set_option maxHeartbeats 8000000 in
set_option maxRecDepth 100000 in
theorem back_1s (x n : Int) (s d : ByteArray) (h0 : 0 ≤ x) (h32 : x < 4294967296) (hn0 : 0 ≤ n) (hn : n < 256) (hm : n % 4 = 0) (hsz : s.size + d.size ≤ 4096) (u : List UInt8) (hu : Wd.unhexL d.data.toList = some u) (w : World) :
    Calls Try.prog 6 #[.int .u32 x, .int .u8 n, .string s, .string d] w fun e w' => e = .returned (.bool true) ∧ Below w.heap.size w w' := by
  have hb := Below.refl w.heap.size w
  obtain ⟨t, ht, P1, P2⟩ := put_fits (x % 256) 1 (by decide) (by decide) (by omega) (by show (x % 256) < 256; omega) (by omega) w
  have P1' : ∀ w, Calls Try.prog 10 #[.int .u32 (x % 256), .int .i64 1] w fun e w' => e = .returned (.tuple #[.string t, .int .i64 0]) ∧ Below w.heap.size w w' := P1
  have ts : ((t.size : Int) != 1) = false := by rw [ht]; decide
  obtain ⟨t4, ht4, P3, P4⟩ := puth_fits x h0 h32
  have P5 : ∀ w, Calls Try.prog 20 #[.string s] w fun e w' => e = .returned (.string (hexS s)) ∧ Below w.heap.size w w' := fun w => hex_call s (by omega) w
  have P6 : ∀ w, Calls Try.prog 18 #[.string (hexS s)] w fun e w' => e = .returned (.tuple #[.string s, .int .i64 0]) ∧ Below w.heap.size w w' := fun w => hex_back s (by omega) w
  have tx : (((hexS s).size : Int) != 2 * (s.size : Int)) = false := by rw [hexS_size, bne_eq_false_iff_eq]; omega
  have P7 : ∀ w, Calls Try.prog 18 #[.string d] w fun e w' => e = .returned (.tuple #[.string ⟨u.toArray⟩, .int .i64 0]) ∧ Below w.heap.size w w' := by
    intro w
    have h := unhex_any d (by omega) w
    have e1 : unhexS d = ⟨u.toArray⟩ := by unfold unhexS Wd.unhexO; rw [hu]; rfl
    have e2 : unhexE d = 0 := by unfold unhexE Wd.unhexE; rw [hu]; rfl
    rw [e1, e2] at h
    exact h
  have P8 : ∀ w, Calls Try.prog 20 #[.string ⟨u.toArray⟩] w fun e w' => e = .returned (.string d) ∧ Below w.heap.size w w' := by
    intro w
    have hl := Wd.unhexL_even _ _ hu
    rw [data_len] at hl
    have h := hex_call ⟨u.toArray⟩ (by rw [mk_size]; omega) w
    have e1 : hexS ⟨u.toArray⟩ = d := by unfold hexS; rw [mk_list, Wd.hexL_unhexL _ _ hu]
    rw [e1] at h
    exact h
  generalize (ByteArray.mk u.toArray) = ub at P7 P8
  have H8 := Lib.hid P8
  generalize hexS s = hx at *
  have H1 := Lib.hid P1'
  have H2 := Lib.hid P2
  have H3 := Lib.hid P3
  have H4 := Lib.hid P4
  have H5 := Lib.hid P5
  have H6 := Lib.hid P6
  have H7 := Lib.hid P7
  clear P1 P1' P2 P3 P4 P5 P6 P7 ht ht4 hu P8
  have hsz' : (s.size : Int) + (d.size : Int) ≤ 4096 := by omega
  clear hsz
  go_enter Try.func6, Try.ntmps6
  go_wp2_with fail
  refine (H1.out _).mono ?_; rintro e v1 ⟨rfl, q⟩
  replace hb := hb.trans (q.mono hb.size); clear q
  go_wp2_with fail
  refine (H2.out _).mono ?_; rintro e v2 ⟨rfl, rfl⟩
  go_wp2_with fail
  refine (H3.out _).mono ?_; rintro e v3 ⟨rfl, q⟩
  replace hb := hb.trans (q.mono hb.size); clear q
  go_wp2_with fail
  refine (H4.out _).mono ?_; rintro e v4 ⟨rfl, q⟩
  replace hb := hb.trans (q.mono hb.size); clear q
  go_wp2_with fail
  refine (H5.out _).mono ?_; rintro e v5 ⟨rfl, q⟩
  replace hb := hb.trans (q.mono hb.size); clear q
  go_wp2_with fail
  refine (H6.out _).mono ?_; rintro e v6 ⟨rfl, q⟩
  replace hb := hb.trans (q.mono hb.size); clear q
  go_wp2_with fail
  refine (H5.out _).mono ?_; rintro e v7 ⟨rfl, q⟩
  replace hb := hb.trans (q.mono hb.size); clear q
  go_wp2_with fail
  refine (H7.out _).mono ?_; rintro e v8 ⟨rfl, q⟩
  replace hb := hb.trans (q.mono hb.size); clear q
  go_wp2_with fail
  refine (H8.out _).mono ?_; rintro e v9 ⟨rfl, q⟩
  replace hb := hb.trans (q.mono hb.size); clear q
  go_wp2_with fail
  refine (alive_any _).mono ?_; rintro e v10 ⟨rfl, q⟩
  replace hb := hb.trans (q.mono hb.size); clear q
  go_wp2
  go_ret
  exact ⟨rfl, hb⟩

set_option maxHeartbeats 8000000 in
set_option maxRecDepth 100000 in
theorem back_2n (x n : Int) (s d : ByteArray) (h0 : 0 ≤ x) (h32 : x < 4294967296) (hn0 : 0 ≤ n) (hn : n < 256) (hm : n % 4 = 1) (hsz : s.size + d.size ≤ 4096) (hu : Wd.unhexL d.data.toList = none) (w : World) :
    Calls Try.prog 6 #[.int .u32 x, .int .u8 n, .string s, .string d] w fun e w' => e = .returned (.bool true) ∧ Below w.heap.size w w' := by
  have hb := Below.refl w.heap.size w
  obtain ⟨t, ht, P1, P2⟩ := put_fits (x % 65536) 2 (by decide) (by decide) (by omega) (by show (x % 65536) < 65536; omega) (by omega) w
  have P1' : ∀ w, Calls Try.prog 10 #[.int .u32 (x % 65536), .int .i64 2] w fun e w' => e = .returned (.tuple #[.string t, .int .i64 0]) ∧ Below w.heap.size w w' := P1
  have ts : ((t.size : Int) != 2) = false := by rw [ht]; decide
  obtain ⟨t4, ht4, P3, P4⟩ := puth_fits x h0 h32
  have P5 : ∀ w, Calls Try.prog 20 #[.string s] w fun e w' => e = .returned (.string (hexS s)) ∧ Below w.heap.size w w' := fun w => hex_call s (by omega) w
  have P6 : ∀ w, Calls Try.prog 18 #[.string (hexS s)] w fun e w' => e = .returned (.tuple #[.string s, .int .i64 0]) ∧ Below w.heap.size w w' := fun w => hex_back s (by omega) w
  have tx : (((hexS s).size : Int) != 2 * (s.size : Int)) = false := by rw [hexS_size, bne_eq_false_iff_eq]; omega
  have P7 : ∀ w, Calls Try.prog 18 #[.string d] w fun e w' => e = .returned (.tuple #[.string ⟨#[]⟩, .int .i64 2]) ∧ Below w.heap.size w w' := by
    intro w
    have h := unhex_any d (by omega) w
    have e1 : unhexS d = ⟨#[]⟩ := by unfold unhexS Wd.unhexO; rw [hu]; rfl
    have e2 : unhexE d = 2 := by unfold unhexE Wd.unhexE; rw [hu]; rfl
    rw [e1, e2] at h
    exact h
  generalize hexS s = hx at *
  have H1 := Lib.hid P1'
  have H2 := Lib.hid P2
  have H3 := Lib.hid P3
  have H4 := Lib.hid P4
  have H5 := Lib.hid P5
  have H6 := Lib.hid P6
  have H7 := Lib.hid P7
  clear P1 P1' P2 P3 P4 P5 P6 P7 ht ht4 hu 
  have hsz' : (s.size : Int) + (d.size : Int) ≤ 4096 := by omega
  clear hsz
  go_enter Try.func6, Try.ntmps6
  go_wp2_with fail
  refine (H1.out _).mono ?_; rintro e v1 ⟨rfl, q⟩
  replace hb := hb.trans (q.mono hb.size); clear q
  go_wp2_with fail
  refine (H2.out _).mono ?_; rintro e v2 ⟨rfl, rfl⟩
  go_wp2_with fail
  refine (H3.out _).mono ?_; rintro e v3 ⟨rfl, q⟩
  replace hb := hb.trans (q.mono hb.size); clear q
  go_wp2_with fail
  refine (H4.out _).mono ?_; rintro e v4 ⟨rfl, q⟩
  replace hb := hb.trans (q.mono hb.size); clear q
  go_wp2_with fail
  refine (H5.out _).mono ?_; rintro e v5 ⟨rfl, q⟩
  replace hb := hb.trans (q.mono hb.size); clear q
  go_wp2_with fail
  refine (H6.out _).mono ?_; rintro e v6 ⟨rfl, q⟩
  replace hb := hb.trans (q.mono hb.size); clear q
  go_wp2_with fail
  refine (H5.out _).mono ?_; rintro e v7 ⟨rfl, q⟩
  replace hb := hb.trans (q.mono hb.size); clear q
  go_wp2_with fail
  refine (H7.out _).mono ?_; rintro e v8 ⟨rfl, q⟩
  replace hb := hb.trans (q.mono hb.size); clear q
  go_wp2_with fail
  refine (alive_any _).mono ?_; rintro e v9 ⟨rfl, q⟩
  replace hb := hb.trans (q.mono hb.size); clear q
  go_wp2
  go_ret
  exact ⟨rfl, hb⟩

set_option maxHeartbeats 8000000 in
set_option maxRecDepth 100000 in
theorem back_2s (x n : Int) (s d : ByteArray) (h0 : 0 ≤ x) (h32 : x < 4294967296) (hn0 : 0 ≤ n) (hn : n < 256) (hm : n % 4 = 1) (hsz : s.size + d.size ≤ 4096) (u : List UInt8) (hu : Wd.unhexL d.data.toList = some u) (w : World) :
    Calls Try.prog 6 #[.int .u32 x, .int .u8 n, .string s, .string d] w fun e w' => e = .returned (.bool true) ∧ Below w.heap.size w w' := by
  have hb := Below.refl w.heap.size w
  obtain ⟨t, ht, P1, P2⟩ := put_fits (x % 65536) 2 (by decide) (by decide) (by omega) (by show (x % 65536) < 65536; omega) (by omega) w
  have P1' : ∀ w, Calls Try.prog 10 #[.int .u32 (x % 65536), .int .i64 2] w fun e w' => e = .returned (.tuple #[.string t, .int .i64 0]) ∧ Below w.heap.size w w' := P1
  have ts : ((t.size : Int) != 2) = false := by rw [ht]; decide
  obtain ⟨t4, ht4, P3, P4⟩ := puth_fits x h0 h32
  have P5 : ∀ w, Calls Try.prog 20 #[.string s] w fun e w' => e = .returned (.string (hexS s)) ∧ Below w.heap.size w w' := fun w => hex_call s (by omega) w
  have P6 : ∀ w, Calls Try.prog 18 #[.string (hexS s)] w fun e w' => e = .returned (.tuple #[.string s, .int .i64 0]) ∧ Below w.heap.size w w' := fun w => hex_back s (by omega) w
  have tx : (((hexS s).size : Int) != 2 * (s.size : Int)) = false := by rw [hexS_size, bne_eq_false_iff_eq]; omega
  have P7 : ∀ w, Calls Try.prog 18 #[.string d] w fun e w' => e = .returned (.tuple #[.string ⟨u.toArray⟩, .int .i64 0]) ∧ Below w.heap.size w w' := by
    intro w
    have h := unhex_any d (by omega) w
    have e1 : unhexS d = ⟨u.toArray⟩ := by unfold unhexS Wd.unhexO; rw [hu]; rfl
    have e2 : unhexE d = 0 := by unfold unhexE Wd.unhexE; rw [hu]; rfl
    rw [e1, e2] at h
    exact h
  have P8 : ∀ w, Calls Try.prog 20 #[.string ⟨u.toArray⟩] w fun e w' => e = .returned (.string d) ∧ Below w.heap.size w w' := by
    intro w
    have hl := Wd.unhexL_even _ _ hu
    rw [data_len] at hl
    have h := hex_call ⟨u.toArray⟩ (by rw [mk_size]; omega) w
    have e1 : hexS ⟨u.toArray⟩ = d := by unfold hexS; rw [mk_list, Wd.hexL_unhexL _ _ hu]
    rw [e1] at h
    exact h
  generalize (ByteArray.mk u.toArray) = ub at P7 P8
  have H8 := Lib.hid P8
  generalize hexS s = hx at *
  have H1 := Lib.hid P1'
  have H2 := Lib.hid P2
  have H3 := Lib.hid P3
  have H4 := Lib.hid P4
  have H5 := Lib.hid P5
  have H6 := Lib.hid P6
  have H7 := Lib.hid P7
  clear P1 P1' P2 P3 P4 P5 P6 P7 ht ht4 hu P8
  have hsz' : (s.size : Int) + (d.size : Int) ≤ 4096 := by omega
  clear hsz
  go_enter Try.func6, Try.ntmps6
  go_wp2_with fail
  refine (H1.out _).mono ?_; rintro e v1 ⟨rfl, q⟩
  replace hb := hb.trans (q.mono hb.size); clear q
  go_wp2_with fail
  refine (H2.out _).mono ?_; rintro e v2 ⟨rfl, rfl⟩
  go_wp2_with fail
  refine (H3.out _).mono ?_; rintro e v3 ⟨rfl, q⟩
  replace hb := hb.trans (q.mono hb.size); clear q
  go_wp2_with fail
  refine (H4.out _).mono ?_; rintro e v4 ⟨rfl, q⟩
  replace hb := hb.trans (q.mono hb.size); clear q
  go_wp2_with fail
  refine (H5.out _).mono ?_; rintro e v5 ⟨rfl, q⟩
  replace hb := hb.trans (q.mono hb.size); clear q
  go_wp2_with fail
  refine (H6.out _).mono ?_; rintro e v6 ⟨rfl, q⟩
  replace hb := hb.trans (q.mono hb.size); clear q
  go_wp2_with fail
  refine (H5.out _).mono ?_; rintro e v7 ⟨rfl, q⟩
  replace hb := hb.trans (q.mono hb.size); clear q
  go_wp2_with fail
  refine (H7.out _).mono ?_; rintro e v8 ⟨rfl, q⟩
  replace hb := hb.trans (q.mono hb.size); clear q
  go_wp2_with fail
  refine (H8.out _).mono ?_; rintro e v9 ⟨rfl, q⟩
  replace hb := hb.trans (q.mono hb.size); clear q
  go_wp2_with fail
  refine (alive_any _).mono ?_; rintro e v10 ⟨rfl, q⟩
  replace hb := hb.trans (q.mono hb.size); clear q
  go_wp2
  go_ret
  exact ⟨rfl, hb⟩

set_option maxHeartbeats 8000000 in
set_option maxRecDepth 100000 in
theorem back_3n (x n : Int) (s d : ByteArray) (h0 : 0 ≤ x) (h32 : x < 4294967296) (hn0 : 0 ≤ n) (hn : n < 256) (hm : n % 4 = 2) (hsz : s.size + d.size ≤ 4096) (hu : Wd.unhexL d.data.toList = none) (w : World) :
    Calls Try.prog 6 #[.int .u32 x, .int .u8 n, .string s, .string d] w fun e w' => e = .returned (.bool true) ∧ Below w.heap.size w w' := by
  have hb := Below.refl w.heap.size w
  obtain ⟨t, ht, P1, P2⟩ := put_fits (x % 16777216) 3 (by decide) (by decide) (by omega) (by show (x % 16777216) < 16777216; omega) (by omega) w
  have P1' : ∀ w, Calls Try.prog 10 #[.int .u32 (x % 16777216), .int .i64 3] w fun e w' => e = .returned (.tuple #[.string t, .int .i64 0]) ∧ Below w.heap.size w w' := P1
  have ts : ((t.size : Int) != 3) = false := by rw [ht]; decide
  obtain ⟨t4, ht4, P3, P4⟩ := puth_fits x h0 h32
  have P5 : ∀ w, Calls Try.prog 20 #[.string s] w fun e w' => e = .returned (.string (hexS s)) ∧ Below w.heap.size w w' := fun w => hex_call s (by omega) w
  have P6 : ∀ w, Calls Try.prog 18 #[.string (hexS s)] w fun e w' => e = .returned (.tuple #[.string s, .int .i64 0]) ∧ Below w.heap.size w w' := fun w => hex_back s (by omega) w
  have tx : (((hexS s).size : Int) != 2 * (s.size : Int)) = false := by rw [hexS_size, bne_eq_false_iff_eq]; omega
  have P7 : ∀ w, Calls Try.prog 18 #[.string d] w fun e w' => e = .returned (.tuple #[.string ⟨#[]⟩, .int .i64 2]) ∧ Below w.heap.size w w' := by
    intro w
    have h := unhex_any d (by omega) w
    have e1 : unhexS d = ⟨#[]⟩ := by unfold unhexS Wd.unhexO; rw [hu]; rfl
    have e2 : unhexE d = 2 := by unfold unhexE Wd.unhexE; rw [hu]; rfl
    rw [e1, e2] at h
    exact h
  generalize hexS s = hx at *
  have H1 := Lib.hid P1'
  have H2 := Lib.hid P2
  have H3 := Lib.hid P3
  have H4 := Lib.hid P4
  have H5 := Lib.hid P5
  have H6 := Lib.hid P6
  have H7 := Lib.hid P7
  clear P1 P1' P2 P3 P4 P5 P6 P7 ht ht4 hu 
  have hsz' : (s.size : Int) + (d.size : Int) ≤ 4096 := by omega
  clear hsz
  go_enter Try.func6, Try.ntmps6
  go_wp2_with fail
  refine (H1.out _).mono ?_; rintro e v1 ⟨rfl, q⟩
  replace hb := hb.trans (q.mono hb.size); clear q
  go_wp2_with fail
  refine (H2.out _).mono ?_; rintro e v2 ⟨rfl, rfl⟩
  go_wp2_with fail
  refine (H3.out _).mono ?_; rintro e v3 ⟨rfl, q⟩
  replace hb := hb.trans (q.mono hb.size); clear q
  go_wp2_with fail
  refine (H4.out _).mono ?_; rintro e v4 ⟨rfl, q⟩
  replace hb := hb.trans (q.mono hb.size); clear q
  go_wp2_with fail
  refine (H5.out _).mono ?_; rintro e v5 ⟨rfl, q⟩
  replace hb := hb.trans (q.mono hb.size); clear q
  go_wp2_with fail
  refine (H6.out _).mono ?_; rintro e v6 ⟨rfl, q⟩
  replace hb := hb.trans (q.mono hb.size); clear q
  go_wp2_with fail
  refine (H5.out _).mono ?_; rintro e v7 ⟨rfl, q⟩
  replace hb := hb.trans (q.mono hb.size); clear q
  go_wp2_with fail
  refine (H7.out _).mono ?_; rintro e v8 ⟨rfl, q⟩
  replace hb := hb.trans (q.mono hb.size); clear q
  go_wp2_with fail
  refine (alive_any _).mono ?_; rintro e v9 ⟨rfl, q⟩
  replace hb := hb.trans (q.mono hb.size); clear q
  go_wp2
  go_ret
  exact ⟨rfl, hb⟩

set_option maxHeartbeats 8000000 in
set_option maxRecDepth 100000 in
theorem back_3s (x n : Int) (s d : ByteArray) (h0 : 0 ≤ x) (h32 : x < 4294967296) (hn0 : 0 ≤ n) (hn : n < 256) (hm : n % 4 = 2) (hsz : s.size + d.size ≤ 4096) (u : List UInt8) (hu : Wd.unhexL d.data.toList = some u) (w : World) :
    Calls Try.prog 6 #[.int .u32 x, .int .u8 n, .string s, .string d] w fun e w' => e = .returned (.bool true) ∧ Below w.heap.size w w' := by
  have hb := Below.refl w.heap.size w
  obtain ⟨t, ht, P1, P2⟩ := put_fits (x % 16777216) 3 (by decide) (by decide) (by omega) (by show (x % 16777216) < 16777216; omega) (by omega) w
  have P1' : ∀ w, Calls Try.prog 10 #[.int .u32 (x % 16777216), .int .i64 3] w fun e w' => e = .returned (.tuple #[.string t, .int .i64 0]) ∧ Below w.heap.size w w' := P1
  have ts : ((t.size : Int) != 3) = false := by rw [ht]; decide
  obtain ⟨t4, ht4, P3, P4⟩ := puth_fits x h0 h32
  have P5 : ∀ w, Calls Try.prog 20 #[.string s] w fun e w' => e = .returned (.string (hexS s)) ∧ Below w.heap.size w w' := fun w => hex_call s (by omega) w
  have P6 : ∀ w, Calls Try.prog 18 #[.string (hexS s)] w fun e w' => e = .returned (.tuple #[.string s, .int .i64 0]) ∧ Below w.heap.size w w' := fun w => hex_back s (by omega) w
  have tx : (((hexS s).size : Int) != 2 * (s.size : Int)) = false := by rw [hexS_size, bne_eq_false_iff_eq]; omega
  have P7 : ∀ w, Calls Try.prog 18 #[.string d] w fun e w' => e = .returned (.tuple #[.string ⟨u.toArray⟩, .int .i64 0]) ∧ Below w.heap.size w w' := by
    intro w
    have h := unhex_any d (by omega) w
    have e1 : unhexS d = ⟨u.toArray⟩ := by unfold unhexS Wd.unhexO; rw [hu]; rfl
    have e2 : unhexE d = 0 := by unfold unhexE Wd.unhexE; rw [hu]; rfl
    rw [e1, e2] at h
    exact h
  have P8 : ∀ w, Calls Try.prog 20 #[.string ⟨u.toArray⟩] w fun e w' => e = .returned (.string d) ∧ Below w.heap.size w w' := by
    intro w
    have hl := Wd.unhexL_even _ _ hu
    rw [data_len] at hl
    have h := hex_call ⟨u.toArray⟩ (by rw [mk_size]; omega) w
    have e1 : hexS ⟨u.toArray⟩ = d := by unfold hexS; rw [mk_list, Wd.hexL_unhexL _ _ hu]
    rw [e1] at h
    exact h
  generalize (ByteArray.mk u.toArray) = ub at P7 P8
  have H8 := Lib.hid P8
  generalize hexS s = hx at *
  have H1 := Lib.hid P1'
  have H2 := Lib.hid P2
  have H3 := Lib.hid P3
  have H4 := Lib.hid P4
  have H5 := Lib.hid P5
  have H6 := Lib.hid P6
  have H7 := Lib.hid P7
  clear P1 P1' P2 P3 P4 P5 P6 P7 ht ht4 hu P8
  have hsz' : (s.size : Int) + (d.size : Int) ≤ 4096 := by omega
  clear hsz
  go_enter Try.func6, Try.ntmps6
  go_wp2_with fail
  refine (H1.out _).mono ?_; rintro e v1 ⟨rfl, q⟩
  replace hb := hb.trans (q.mono hb.size); clear q
  go_wp2_with fail
  refine (H2.out _).mono ?_; rintro e v2 ⟨rfl, rfl⟩
  go_wp2_with fail
  refine (H3.out _).mono ?_; rintro e v3 ⟨rfl, q⟩
  replace hb := hb.trans (q.mono hb.size); clear q
  go_wp2_with fail
  refine (H4.out _).mono ?_; rintro e v4 ⟨rfl, q⟩
  replace hb := hb.trans (q.mono hb.size); clear q
  go_wp2_with fail
  refine (H5.out _).mono ?_; rintro e v5 ⟨rfl, q⟩
  replace hb := hb.trans (q.mono hb.size); clear q
  go_wp2_with fail
  refine (H6.out _).mono ?_; rintro e v6 ⟨rfl, q⟩
  replace hb := hb.trans (q.mono hb.size); clear q
  go_wp2_with fail
  refine (H5.out _).mono ?_; rintro e v7 ⟨rfl, q⟩
  replace hb := hb.trans (q.mono hb.size); clear q
  go_wp2_with fail
  refine (H7.out _).mono ?_; rintro e v8 ⟨rfl, q⟩
  replace hb := hb.trans (q.mono hb.size); clear q
  go_wp2_with fail
  refine (H8.out _).mono ?_; rintro e v9 ⟨rfl, q⟩
  replace hb := hb.trans (q.mono hb.size); clear q
  go_wp2_with fail
  refine (alive_any _).mono ?_; rintro e v10 ⟨rfl, q⟩
  replace hb := hb.trans (q.mono hb.size); clear q
  go_wp2
  go_ret
  exact ⟨rfl, hb⟩

set_option maxHeartbeats 8000000 in
set_option maxRecDepth 100000 in
theorem back_4n (x n : Int) (s d : ByteArray) (h0 : 0 ≤ x) (h32 : x < 4294967296) (hn0 : 0 ≤ n) (hn : n < 256) (hm : n % 4 = 3) (hsz : s.size + d.size ≤ 4096) (hu : Wd.unhexL d.data.toList = none) (w : World) :
    Calls Try.prog 6 #[.int .u32 x, .int .u8 n, .string s, .string d] w fun e w' => e = .returned (.bool true) ∧ Below w.heap.size w w' := by
  have hb := Below.refl w.heap.size w
  obtain ⟨t, ht, P1, P2⟩ := put_fits x 4 (by decide) (by decide) (by omega) (by show x < 4294967296; omega) (by omega) w
  have P1' : ∀ w, Calls Try.prog 10 #[.int .u32 x, .int .i64 4] w fun e w' => e = .returned (.tuple #[.string t, .int .i64 0]) ∧ Below w.heap.size w w' := P1
  have ts : ((t.size : Int) != 4) = false := by rw [ht]; decide
  obtain ⟨t4, ht4, P3, P4⟩ := puth_fits x h0 h32
  have P5 : ∀ w, Calls Try.prog 20 #[.string s] w fun e w' => e = .returned (.string (hexS s)) ∧ Below w.heap.size w w' := fun w => hex_call s (by omega) w
  have P6 : ∀ w, Calls Try.prog 18 #[.string (hexS s)] w fun e w' => e = .returned (.tuple #[.string s, .int .i64 0]) ∧ Below w.heap.size w w' := fun w => hex_back s (by omega) w
  have tx : (((hexS s).size : Int) != 2 * (s.size : Int)) = false := by rw [hexS_size, bne_eq_false_iff_eq]; omega
  have P7 : ∀ w, Calls Try.prog 18 #[.string d] w fun e w' => e = .returned (.tuple #[.string ⟨#[]⟩, .int .i64 2]) ∧ Below w.heap.size w w' := by
    intro w
    have h := unhex_any d (by omega) w
    have e1 : unhexS d = ⟨#[]⟩ := by unfold unhexS Wd.unhexO; rw [hu]; rfl
    have e2 : unhexE d = 2 := by unfold unhexE Wd.unhexE; rw [hu]; rfl
    rw [e1, e2] at h
    exact h
  generalize hexS s = hx at *
  have H1 := Lib.hid P1'
  have H2 := Lib.hid P2
  have H3 := Lib.hid P3
  have H4 := Lib.hid P4
  have H5 := Lib.hid P5
  have H6 := Lib.hid P6
  have H7 := Lib.hid P7
  clear P1 P1' P2 P3 P4 P5 P6 P7 ht ht4 hu 
  have hsz' : (s.size : Int) + (d.size : Int) ≤ 4096 := by omega
  clear hsz
  go_enter Try.func6, Try.ntmps6
  go_wp2_with fail
  refine (H1.out _).mono ?_; rintro e v1 ⟨rfl, q⟩
  replace hb := hb.trans (q.mono hb.size); clear q
  go_wp2_with fail
  refine (H2.out _).mono ?_; rintro e v2 ⟨rfl, rfl⟩
  go_wp2_with fail
  refine (H3.out _).mono ?_; rintro e v3 ⟨rfl, q⟩
  replace hb := hb.trans (q.mono hb.size); clear q
  go_wp2_with fail
  refine (H4.out _).mono ?_; rintro e v4 ⟨rfl, q⟩
  replace hb := hb.trans (q.mono hb.size); clear q
  go_wp2_with fail
  refine (H5.out _).mono ?_; rintro e v5 ⟨rfl, q⟩
  replace hb := hb.trans (q.mono hb.size); clear q
  go_wp2_with fail
  refine (H6.out _).mono ?_; rintro e v6 ⟨rfl, q⟩
  replace hb := hb.trans (q.mono hb.size); clear q
  go_wp2_with fail
  refine (H5.out _).mono ?_; rintro e v7 ⟨rfl, q⟩
  replace hb := hb.trans (q.mono hb.size); clear q
  go_wp2_with fail
  refine (H7.out _).mono ?_; rintro e v8 ⟨rfl, q⟩
  replace hb := hb.trans (q.mono hb.size); clear q
  go_wp2_with fail
  refine (alive_any _).mono ?_; rintro e v9 ⟨rfl, q⟩
  replace hb := hb.trans (q.mono hb.size); clear q
  go_wp2
  go_ret
  exact ⟨rfl, hb⟩

set_option maxHeartbeats 8000000 in
set_option maxRecDepth 100000 in
theorem back_4s (x n : Int) (s d : ByteArray) (h0 : 0 ≤ x) (h32 : x < 4294967296) (hn0 : 0 ≤ n) (hn : n < 256) (hm : n % 4 = 3) (hsz : s.size + d.size ≤ 4096) (u : List UInt8) (hu : Wd.unhexL d.data.toList = some u) (w : World) :
    Calls Try.prog 6 #[.int .u32 x, .int .u8 n, .string s, .string d] w fun e w' => e = .returned (.bool true) ∧ Below w.heap.size w w' := by
  have hb := Below.refl w.heap.size w
  obtain ⟨t, ht, P1, P2⟩ := put_fits x 4 (by decide) (by decide) (by omega) (by show x < 4294967296; omega) (by omega) w
  have P1' : ∀ w, Calls Try.prog 10 #[.int .u32 x, .int .i64 4] w fun e w' => e = .returned (.tuple #[.string t, .int .i64 0]) ∧ Below w.heap.size w w' := P1
  have ts : ((t.size : Int) != 4) = false := by rw [ht]; decide
  obtain ⟨t4, ht4, P3, P4⟩ := puth_fits x h0 h32
  have P5 : ∀ w, Calls Try.prog 20 #[.string s] w fun e w' => e = .returned (.string (hexS s)) ∧ Below w.heap.size w w' := fun w => hex_call s (by omega) w
  have P6 : ∀ w, Calls Try.prog 18 #[.string (hexS s)] w fun e w' => e = .returned (.tuple #[.string s, .int .i64 0]) ∧ Below w.heap.size w w' := fun w => hex_back s (by omega) w
  have tx : (((hexS s).size : Int) != 2 * (s.size : Int)) = false := by rw [hexS_size, bne_eq_false_iff_eq]; omega
  have P7 : ∀ w, Calls Try.prog 18 #[.string d] w fun e w' => e = .returned (.tuple #[.string ⟨u.toArray⟩, .int .i64 0]) ∧ Below w.heap.size w w' := by
    intro w
    have h := unhex_any d (by omega) w
    have e1 : unhexS d = ⟨u.toArray⟩ := by unfold unhexS Wd.unhexO; rw [hu]; rfl
    have e2 : unhexE d = 0 := by unfold unhexE Wd.unhexE; rw [hu]; rfl
    rw [e1, e2] at h
    exact h
  have P8 : ∀ w, Calls Try.prog 20 #[.string ⟨u.toArray⟩] w fun e w' => e = .returned (.string d) ∧ Below w.heap.size w w' := by
    intro w
    have hl := Wd.unhexL_even _ _ hu
    rw [data_len] at hl
    have h := hex_call ⟨u.toArray⟩ (by rw [mk_size]; omega) w
    have e1 : hexS ⟨u.toArray⟩ = d := by unfold hexS; rw [mk_list, Wd.hexL_unhexL _ _ hu]
    rw [e1] at h
    exact h
  generalize (ByteArray.mk u.toArray) = ub at P7 P8
  have H8 := Lib.hid P8
  generalize hexS s = hx at *
  have H1 := Lib.hid P1'
  have H2 := Lib.hid P2
  have H3 := Lib.hid P3
  have H4 := Lib.hid P4
  have H5 := Lib.hid P5
  have H6 := Lib.hid P6
  have H7 := Lib.hid P7
  clear P1 P1' P2 P3 P4 P5 P6 P7 ht ht4 hu P8
  have hsz' : (s.size : Int) + (d.size : Int) ≤ 4096 := by omega
  clear hsz
  go_enter Try.func6, Try.ntmps6
  go_wp2_with fail
  refine (H1.out _).mono ?_; rintro e v1 ⟨rfl, q⟩
  replace hb := hb.trans (q.mono hb.size); clear q
  go_wp2_with fail
  refine (H2.out _).mono ?_; rintro e v2 ⟨rfl, rfl⟩
  go_wp2_with fail
  refine (H3.out _).mono ?_; rintro e v3 ⟨rfl, q⟩
  replace hb := hb.trans (q.mono hb.size); clear q
  go_wp2_with fail
  refine (H4.out _).mono ?_; rintro e v4 ⟨rfl, q⟩
  replace hb := hb.trans (q.mono hb.size); clear q
  go_wp2_with fail
  refine (H5.out _).mono ?_; rintro e v5 ⟨rfl, q⟩
  replace hb := hb.trans (q.mono hb.size); clear q
  go_wp2_with fail
  refine (H6.out _).mono ?_; rintro e v6 ⟨rfl, q⟩
  replace hb := hb.trans (q.mono hb.size); clear q
  go_wp2_with fail
  refine (H5.out _).mono ?_; rintro e v7 ⟨rfl, q⟩
  replace hb := hb.trans (q.mono hb.size); clear q
  go_wp2_with fail
  refine (H7.out _).mono ?_; rintro e v8 ⟨rfl, q⟩
  replace hb := hb.trans (q.mono hb.size); clear q
  go_wp2_with fail
  refine (H8.out _).mono ?_; rintro e v9 ⟨rfl, q⟩
  replace hb := hb.trans (q.mono hb.size); clear q
  go_wp2_with fail
  refine (alive_any _).mono ?_; rintro e v10 ⟨rfl, q⟩
  replace hb := hb.trans (q.mono hb.size); clear q
  go_wp2
  go_ret
  exact ⟨rfl, hb⟩

set_option maxHeartbeats 1000000 in
theorem back_long (x n : Int) (s d : ByteArray) (hs : s.size ≤ 140737488351232) (hd : d.size ≤ 140737488351232) (hsz : 4096 < s.size + d.size) (w : World) :
    Calls Try.prog 6 #[.int .u32 x, .int .u8 n, .string s, .string d] w fun e w' => e = .returned (.bool true) ∧ Below w.heap.size w w' := by
  have hsz' : (4096 : Int) < (s.size : Int) + (d.size : Int) := by omega
  clear hsz
  go_enter Try.func6, Try.ntmps6
  go_wp2_with fail
  refine (alive_any _).mono ?_; rintro e v1 ⟨rfl, hb⟩
  go_wp2
  go_ret
  exact ⟨rfl, hb⟩

theorem back_walk (a0 a1 : Int) (a2 a3 : ByteArray) (w0 : (Lit.int .u32 a0).wf = true) (w1 : (Lit.int .u8 a1).wf = true) (w2 : a2.size ≤ 140737488351232) (w3 : a3.size ≤ 140737488351232) (w : World) :
    Calls Try.prog 6 #[.int .u32 a0, .int .u8 a1, .string a2, .string a3] w fun e w' => e = .returned (.bool true) ∧ Below w.heap.size w w' := by
  have b0 := bounds_u32 w0
  have b1 := bounds_u8 w1
  by_cases h : a2.size + a3.size ≤ 4096
  · have hm : a1 % 4 = 0 ∨ a1 % 4 = 1 ∨ a1 % 4 = 2 ∨ a1 % 4 = 3 := by omega
    cases hu : Wd.unhexL a3.data.toList with
    | none =>
      rcases hm with hm | hm | hm | hm
      · exact back_1n a0 a1 a2 a3 (by omega) (by omega) (by omega) (by omega) hm h hu w
      · exact back_2n a0 a1 a2 a3 (by omega) (by omega) (by omega) (by omega) hm h hu w
      · exact back_3n a0 a1 a2 a3 (by omega) (by omega) (by omega) (by omega) hm h hu w
      · exact back_4n a0 a1 a2 a3 (by omega) (by omega) (by omega) (by omega) hm h hu w
    | some u =>
      rcases hm with hm | hm | hm | hm
      · exact back_1s a0 a1 a2 a3 (by omega) (by omega) (by omega) (by omega) hm h u hu w
      · exact back_2s a0 a1 a2 a3 (by omega) (by omega) (by omega) (by omega) hm h u hu w
      · exact back_3s a0 a1 a2 a3 (by omega) (by omega) (by omega) (by omega) hm h u hu w
      · exact back_4s a0 a1 a2 a3 (by omega) (by omega) (by omega) (by omega) hm h u hu w
  · exact back_long a0 a1 a2 a3 w2 w3 (by omega) w

set_option maxRecDepth 100000 in
theorem back_lifted (os : Os) (started : os.Started) (H : Type) (enc : TypeId × Value → H) :
    ReturnsInHanded {} Try.checked os 6 .any (Rows.wordBackSpec.pre6 enc Try.prog Try.f6 Rows.wordBackRow.domain false) (Rows.wordBackSpec.post enc Try.prog Try.f6 false true false false) := by
  refine returnsInHanded_of_change_sized (C := Try.checked) own started (by kernel_rfl) Try.func6
    (ChangeSpec.witness6 (enc := enc) (C := Try.checked) false ⟨#[], #[.int .u32 0, .int .u8 0, .string ByteArray.empty, .string ByteArray.empty], []⟩ 8 (by kernel_rfl) (by kernel_rfl) (by kernel_rfl) (by kernel_rfl)) ?_
  intro W base args ds gs before hval0 hW hcnd hsz0 _
  have hval : ∀ (j : Nat) t v, Try.f6.params[j]? = some t → args[j]? = some v → Value.okWide Try.prog W .any base t v := hval0
  have hsz : (DataW.weightsEach Try.prog (Try.f6.params.toList ++ Rows.wordBackSpec.plain.varTypes Try.prog) (ds ++ gs)).all (· ≤ reachBytes) = true := hsz0
  have hW' := hW
  obtain ⟨p, q, hA0, hV, rfl, hfz, hnd⟩ := hW
  have hA : DataW.TrodAll enc Try.prog W 0 (fun _ => true) true Try.f6.params.toList args.toList ds p := hA0
  rw [Try.params6] at hA hval hsz
  obtain ⟨v0, vs0, d0, ds0, p0, q0, hargs, rfl, rfl, h0, r0⟩ := trodAll_cons hA
  obtain ⟨v1, vs1, d1, ds1, p1, q1, rfl, rfl, rfl, h1, r1⟩ := trodAll_cons r0
  obtain ⟨v2, vs2, d2, ds2, p2, q2, rfl, rfl, rfl, h2, r2⟩ := trodAll_cons r1
  obtain ⟨v3, vs3, d3, ds3, p3, q3, rfl, rfl, rfl, h3, r3⟩ := trodAll_cons r2
  obtain ⟨rfl, rfl, rfl⟩ := trodAll_nil r3
  obtain rfl : args = #[v0, v1, v2, v3] := by cases args; simp_all
  obtain ⟨rfl, rfl⟩ := trodVars_none hV
  obtain ⟨a0, rfl, rfl, rfl, w0⟩ := open_int Try.underlying22 (hval 0 22 v0 rfl rfl) h0
  obtain ⟨a1, rfl, rfl, rfl, w1⟩ := open_int Try.underlying5 (hval 1 5 v1 rfl rfl) h1
  obtain ⟨a2, rfl, rfl, rfl, w2⟩ := open_string Try.underlying9 (hval 2 9 v2 rfl rfl) h2
  obtain ⟨a3, rfl, rfl, rfl, w3⟩ := open_string Try.underlying9 (hval 3 9 v3 rfl rfl) h3
  have z2 : a2.data.toList.length ≤ reachBytes := sized_string hsz (j := 2) (t := 9) rfl rfl
  have z3 : a3.data.toList.length ≤ reachBytes := sized_string hsz (j := 3) (t := 9) rfl rfl
  clear hA0 hval0
  simp only [List.append_nil] at hW'
  refine (back_walk a0 a1 a2 a3 w0 w1 z2 z3 W).mono fun e W' ⟨he, hb⟩ => ?_
  subst he
  exact ⟨_, rfl, law_post hW' rfl rfl rfl Try.underlying4 (fun sp => (trodAll_cons_mk (shut_int Try.underlying22 w0) (trodAll_cons_mk (shut_int Try.underlying5 w1) (trodAll_cons_mk (shut_string Try.underlying9 w2) (trodAll_cons_mk (shut_string Try.underlying9 w3) trodAll_mk0))))) hb⟩

theorem wordBack_holds : Rows.WordBackSaid :=
  OpenClaim.holds_of_wide 6 Try.f6 rfl rfl rfl rfl rfl rfl rfl ⟨rfl, rfl, rfl, rfl, rfl⟩ rfl rfl rfl rfl rfl (by kernel_rfl) Try.func6 (by kernel_rfl)
    (of_decide_eq_true (by kernel_rfl)) (by unfold Func.isWrapper; first | (rw [if_pos (by decide +kernel)]; kernel_rfl) | (rw [if_neg (by decide +kernel)]; exact ⟨rfl, rfl⟩))
    (fun os started H enc _ => back_lifted os started H enc)

#print axioms wordBack_holds

end Go.Proofs.Ythagofalneadjaa
