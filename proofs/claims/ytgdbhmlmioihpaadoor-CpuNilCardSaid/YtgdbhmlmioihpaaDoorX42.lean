/- Loads and stores of the program's cpu. -/
import Derived.Test.YtgdbhmlmioihpaaDoorX37
import Derived.Test.YtgdbhmlmioihpaaDoorX09
set_option linter.unusedVariables false
namespace Go.Proofs.YtgdbhmlmioihpaaDoor
open Go Go.RowKit Go.Maps

section
variable {q b e n k4 : Nat} {c : Cp} {x : Xn} {A : As}
def ldC (E : Int) (c : Cp) (d : Nat) (V : Int) : Cp := if E = 0 then setR c d V else c
def ldK (E : Int) : Int := if E = 0 then 0 else 2
theorem getS_size (A : As) (need y n : Nat) : (getS A need y (n : Int)).size ≤ n := by
  unfold getS
  split
  · show (bytesAt A y _).toArray.size ≤ n
    simp [bytesAt_length]
  · exact Nat.zero_le _
theorem le_one (v : Nat) : (⟨(I.Wd.le v 4).toArray⟩ : ByteArray).extract 0 1 = ⟨(I.Wd.le v 1).toArray⟩ := by
  apply ByteArray.ext
  rw [ByteArray.data_extract]
  simp [I.Wd.le]
theorem le_four (v : Nat) : (⟨(I.Wd.le v 4).toArray⟩ : ByteArray).extract 0 4 = ⟨(I.Wd.le v 4).toArray⟩ := by
  apply ByteArray.ext
  rw [ByteArray.data_extract]
  simp [I.Wd.le]

set_option maxHeartbeats 4000000 in
set_option maxRecDepth 100000 in
theorem load_any (w : World) (s : Do q b e n c x A w) (hx : x.Ok) (N : Nat) (hN : N ≤ 4) :
    Calls Tryd.prog 48 #[.pointer (some ⟨q, 0, none⟩), .int .i64 (N : Int)] w fun r w' => r = .returned (.agg #[.int .u8 (ldK (getE A 1 (adr x c) (N : Int))), .int .u32 0, .int .i64 (getE A 1 (adr x c) (N : Int))]) ∧
      Do q b e n (ldC (getE A 1 (adr x c) (N : Int)) c x.d (I.getV (getS A 1 (adr x c) (N : Int)))) x A w' ∧ DT w w' b e q := by
  obtain ⟨hd, ha, hb⟩ := hx.regs
  obtain ⟨k4, hk4⟩ : ∃ k4, k4 = w.heap.size := ⟨_, rfl⟩
  obtain ⟨wa, hwa⟩ : ∃ wa, wa = w.alloc (.cells #[.int .u8 0, .int .u32 0, .int .i64 0] 30) := ⟨_, rfl⟩
  have T0 : Hid (Dr w q b e n k4 c x A wa) := Lib.hid (by rw [hk4, hwa]; exact Dr.start s)
  obtain ⟨AD, hAD⟩ : ∃ AD, AD = adr x c := ⟨_, rfl⟩
  have hADl : AD < 4294967296 := by rw [hAD]; exact adr_lt _ _
  rw [← hAD]
  have HE := getE_two A 1 AD N (by omega)
  have hTs := getS_size A 1 AD N
  obtain ⟨E, hE⟩ : ∃ E, E = getE A 1 AD (N : Int) := ⟨_, rfl⟩
  obtain ⟨S, hS⟩ : ∃ S, S = getS A 1 AD (N : Int) := ⟨_, rfl⟩
  rw [← hE] at HE ⊢
  rw [← hS] at hTs ⊢
  obtain ⟨V, hV⟩ : ∃ V, V = I.getV S := ⟨_, rfl⟩
  have HPl : Hid (∀ w1, Do q b e n c x A w1 → Calls Tryd.prog 66 #[.pointer (some ⟨q, 0, none⟩)] w1 fun r w' => r = .returned (.int .u32 (AD : Int)) ∧ Below w1.heap.size w1 w') := Lib.hid fun w1 h1 => by
    rw [hAD]
    exact (place_any w1 h1 ha).mono (by rintro r w' ⟨h2, m, rfl⟩; exact ⟨h2, below_drewN _ _⟩)
  have HRd : Hid (∀ w1, Do q b e n c x A w1 → Calls Tryd.prog 65 #[.pointer (some ⟨b + 1, 0, none⟩), .int .u32 (AD : Int), .int .i64 (N : Int)] w1 fun r w' => r = .returned (.tuple #[.string S, .int .i64 E]) ∧ Below w1.heap.size w1 w') := Lib.hid fun w1 h1 => by
    rw [hE, hS]
    exact read_any b e n A AD (N : Int) hADl w1 h1.sp
  have HGt : Hid (∀ w1, Calls Tryd.prog 44 #[.string S] w1 fun r w' => r = .returned (.tuple #[.int .u32 V, .int .i64 (I.getE S)]) ∧ w1 = w') := Lib.hid fun w1 => by
    rw [hV]; exact I.get_any S (by omega) w1
  have HB : Hid (∀ w1, Do q b e n c x A w1 → Calls Tryd.prog 47 #[.pointer (some ⟨q, 0, none⟩), .int .u32 V] w1 fun r w' => r = .returned (.agg #[.int .u8 0, .int .u32 0, .int .i64 0]) ∧ Do q b e n (setR c x.d V) x A w' ∧ DT w1 w' b e q) := Lib.hid fun w1 h1 => become_any w1 h1 hd V
  rw [← hV]
  have HC : Hid (∀ w1, Do q b e n c x A w1 → w1.cell? ⟨q, 22, none⟩ = some (.pointer (some ⟨b + 1, 0, none⟩))) := Lib.hid fun w1 h1 => h1.six.2.2.2.2.2
  have HK := Lib.hid hk4
  have HW := Lib.hid hwa
  clear hAD hADl hE hS hV hTs hd ha hb s hx hk4 hwa hN
  replace T0 := Lib.hid T0.out.drew
  have hS0 := HC.out _ T0.out.s
  go_enter Tryd.func48, Tryd.ntmps48
  go_upto_region 1 with (fail)
  rw [← HW.out, ← HK.out]
  clear HW HK
  go_region_held3 (fun w' => w'.cell? ⟨q, 22, none⟩ = some (.pointer (some ⟨b + 1, 0, none⟩)))
    (first | exact hS0 | exact hS1 | exact hS2)
    ((first
      | (go_at_call 66; refine (HPl.out _ T0.out.s).mono ?_; rintro r w1 ⟨rfl, q1⟩; have T1 := Lib.hid (T0.out.below q1); have hS1 := HC.out _ T1.out.s; clear q1)
      | (go_at_call 65; refine (HRd.out _ T1.out.s).mono ?_; rintro r w2 ⟨rfl, q2⟩; have T2 := Lib.hid (T1.out.below q2); have hS2 := HC.out _ T2.out.s; clear q2)))
  clear hS0 hS1 hS2 HC HPl HRd T0 T1
  rcases HE with rfl | rfl
  · go_wp2_with fail
    refine (HGt.out _).mono ?_; rintro r w3 ⟨rfl, rfl⟩
    go_wp2_with fail
    refine (HB.out _ T2.out.s).mono ?_; rintro r w4 ⟨rfl, s4, t4⟩
    have T3 := Lib.hid (T2.out.call s4 t4)
    clear s4 t4 T2 HB HGt
    obtain ⟨⟨z0, z1, z2⟩, f0, f1, f2⟩ := T3.out.r.three
    have FF := Lib.hid (T3.out.stop3 (.int .u8 0) (.int .u32 0) (.int .i64 0))
    go_wp2
    refine bodyPost_ret (v := .agg #[.int .u8 0, .int .u32 0, .int .i64 0]) (res_stop Tryd.results48 _ _ k4 _ _ _ rfl FF.out.r) rfl ⟨rfl, FF.out.s, FF.out.dt⟩
  · go_wp2_with fail
    refine (fault_any 50 _).mono ?_; rintro r w4 ⟨rfl, q4⟩
    have T3 := Lib.hid (T2.out.below q4)
    clear q4 T2 HB HGt
    obtain ⟨⟨z0, z1, z2⟩, f0, f1, f2⟩ := T3.out.r.three
    have FF := Lib.hid (T3.out.stop3 (.int .u8 2) (.int .u32 0) (.int .i64 50))
    go_wp2
    refine bodyPost_ret (v := .agg #[.int .u8 2, .int .u32 0, .int .i64 50]) (res_stop Tryd.results48 _ _ k4 _ _ _ rfl FF.out.r) rfl ⟨rfl, FF.out.s, FF.out.dt⟩

set_option maxHeartbeats 2000000 in
set_option maxRecDepth 100000 in
theorem loadByte_any (w : World) (s : Do q b e n c x A w) (hx : x.Ok) :
    Calls Tryd.prog 25 #[.pointer (some ⟨q, 0, none⟩)] w fun r w' => r = .returned (.agg #[.int .u8 (ldK (getE A 1 (adr x c) ((1 : Nat) : Int))), .int .u32 0, .int .i64 (getE A 1 (adr x c) ((1 : Nat) : Int))]) ∧
      Do q b e n (ldC (getE A 1 (adr x c) ((1 : Nat) : Int)) c x.d (I.getV (getS A 1 (adr x c) ((1 : Nat) : Int)))) x A w' ∧ DT w w' b e q := by
  obtain ⟨k4, hk4⟩ : ∃ k4, k4 = w.heap.size := ⟨_, rfl⟩
  obtain ⟨wa, hwa⟩ : ∃ wa, wa = w.alloc (.cells #[.int .u8 0, .int .u32 0, .int .i64 0] 30) := ⟨_, rfl⟩
  have T0 : Hid (Dr w q b e n k4 c x A wa) := Lib.hid (by rw [hk4, hwa]; exact Dr.start s)
  have HL0 := fun w1 (h1 : Do q b e n c x A w1) => load_any w1 h1 hx 1 (by decide)
  obtain ⟨E, hE⟩ : ∃ E, E = getE A 1 (adr x c) ((1 : Nat) : Int) := ⟨_, rfl⟩
  obtain ⟨CC, hCC⟩ : ∃ CC, CC = ldC (getE A 1 (adr x c) ((1 : Nat) : Int)) c x.d (I.getV (getS A 1 (adr x c) ((1 : Nat) : Int))) := ⟨_, rfl⟩
  rw [← hCC] at HL0 ⊢
  rw [← hE] at HL0 ⊢
  obtain ⟨K, hK⟩ : ∃ K, K = ldK E := ⟨_, rfl⟩
  rw [← hK] at HL0 ⊢
  have HL := Lib.hid HL0
  have HK := Lib.hid hk4
  have HW := Lib.hid hwa
  clear HL0 hE hCC hK s hx hk4 hwa
  go_enter Tryd.func25, Tryd.ntmps25
  go_upto_region 1 with (fail)
  rw [← HW.out, ← HK.out]
  clear HW HK
  go_wp2_with fail
  refine (HL.out _ T0.out.s).mono ?_; rintro r w4 ⟨rfl, s4, t4⟩
  have T3 := Lib.hid (T0.out.call s4 t4)
  clear s4 t4 T0 HL
  obtain ⟨⟨z0, z1, z2⟩, f0, f1, f2⟩ := T3.out.r.three
  have FF := Lib.hid (T3.out.stop3 (.int .u8 K) (.int .u32 0) (.int .i64 E))
  go_wp2
  refine bodyPost_ret (v := .agg #[.int .u8 K, .int .u32 0, .int .i64 E]) (res_stop Tryd.results25 _ _ k4 _ _ _ rfl FF.out.r) rfl ⟨rfl, FF.out.s, FF.out.dt⟩

set_option maxHeartbeats 2000000 in
set_option maxRecDepth 100000 in
theorem loadWord_any (w : World) (s : Do q b e n c x A w) (hx : x.Ok) :
    Calls Tryd.prog 26 #[.pointer (some ⟨q, 0, none⟩)] w fun r w' => r = .returned (.agg #[.int .u8 (ldK (getE A 1 (adr x c) ((4 : Nat) : Int))), .int .u32 0, .int .i64 (getE A 1 (adr x c) ((4 : Nat) : Int))]) ∧
      Do q b e n (ldC (getE A 1 (adr x c) ((4 : Nat) : Int)) c x.d (I.getV (getS A 1 (adr x c) ((4 : Nat) : Int)))) x A w' ∧ DT w w' b e q := by
  obtain ⟨k4, hk4⟩ : ∃ k4, k4 = w.heap.size := ⟨_, rfl⟩
  obtain ⟨wa, hwa⟩ : ∃ wa, wa = w.alloc (.cells #[.int .u8 0, .int .u32 0, .int .i64 0] 30) := ⟨_, rfl⟩
  have T0 : Hid (Dr w q b e n k4 c x A wa) := Lib.hid (by rw [hk4, hwa]; exact Dr.start s)
  have HL0 := fun w1 (h1 : Do q b e n c x A w1) => load_any w1 h1 hx 4 (by decide)
  obtain ⟨E, hE⟩ : ∃ E, E = getE A 1 (adr x c) ((4 : Nat) : Int) := ⟨_, rfl⟩
  obtain ⟨CC, hCC⟩ : ∃ CC, CC = ldC (getE A 1 (adr x c) ((4 : Nat) : Int)) c x.d (I.getV (getS A 1 (adr x c) ((4 : Nat) : Int))) := ⟨_, rfl⟩
  rw [← hCC] at HL0 ⊢
  rw [← hE] at HL0 ⊢
  obtain ⟨K, hK⟩ : ∃ K, K = ldK E := ⟨_, rfl⟩
  rw [← hK] at HL0 ⊢
  have HL := Lib.hid HL0
  have HK := Lib.hid hk4
  have HW := Lib.hid hwa
  clear HL0 hE hCC hK s hx hk4 hwa
  go_enter Tryd.func26, Tryd.ntmps26
  go_upto_region 1 with (fail)
  rw [← HW.out, ← HK.out]
  clear HW HK
  go_wp2_with fail
  refine (HL.out _ T0.out.s).mono ?_; rintro r w4 ⟨rfl, s4, t4⟩
  have T3 := Lib.hid (T0.out.call s4 t4)
  clear s4 t4 T0 HL
  obtain ⟨⟨z0, z1, z2⟩, f0, f1, f2⟩ := T3.out.r.three
  have FF := Lib.hid (T3.out.stop3 (.int .u8 K) (.int .u32 0) (.int .i64 E))
  go_wp2
  refine bodyPost_ret (v := .agg #[.int .u8 K, .int .u32 0, .int .i64 E]) (res_stop Tryd.results26 _ _ k4 _ _ _ rfl FF.out.r) rfl ⟨rfl, FF.out.s, FF.out.dt⟩

set_option maxHeartbeats 4000000 in
set_option maxRecDepth 100000 in
theorem store_any (w : World) (s : Do q b e n c x A w) (hc : c.Ok) (hx : x.Ok) (N : Nat) (hN : N = 1 ∨ N = 4) :
    Calls Tryd.prog 49 #[.pointer (some ⟨q, 0, none⟩), .int .i64 (N : Int)] w fun r w' => r = .returned (.agg #[.int .u8 (ldK (putE A 2 (adr x c) ⟨(I.Wd.le (c.r x.b).toNat N).toArray⟩)), .int .u32 0, .int .i64 (putE A 2 (adr x c) ⟨(I.Wd.le (c.r x.b).toNat N).toArray⟩)]) ∧
      Do q b e n c x (putR A 2 (adr x c) ⟨(I.Wd.le (c.r x.b).toNat N).toArray⟩) w' ∧ DT w w' b e q := by
  obtain ⟨hd, ha, hb⟩ := hx.regs
  obtain ⟨k4, hk4⟩ : ∃ k4, k4 = w.heap.size := ⟨_, rfl⟩
  obtain ⟨wa, hwa⟩ : ∃ wa, wa = w.alloc (.cells #[.int .u8 0, .int .u32 0, .int .i64 0] 30) := ⟨_, rfl⟩
  have T0 : Hid (Dr w q b e n k4 c x A wa) := Lib.hid (by rw [hk4, hwa]; exact Dr.start s)
  obtain ⟨AD, hAD⟩ : ∃ AD, AD = adr x c := ⟨_, rfl⟩
  have hADl : AD < 4294967296 := by rw [hAD]; exact adr_lt _ _
  rw [← hAD]
  obtain ⟨Y, hY⟩ : ∃ Y, Y = c.r x.b := ⟨_, rfl⟩
  have y0 : 0 ≤ Y := by rw [hY]; exact hc.lo _
  have y1 : Y < 4294967296 := by rw [hY]; exact hc.hi _
  rw [← hY]
  obtain ⟨S, hS⟩ : ∃ S : ByteArray, S = ⟨(I.Wd.le Y.toNat 4).toArray⟩ := ⟨_, rfl⟩
  obtain ⟨T, hT⟩ : ∃ T : ByteArray, T = ⟨(I.Wd.le Y.toNat N).toArray⟩ := ⟨_, rfl⟩
  have hTs : T.size = N := by
    rw [hT]
    show (I.Wd.le Y.toNat N).toArray.size = N
    simp [I.Wd.le_length]
  have hSs : S.size = 4 := by
    rw [hS]
    show (I.Wd.le Y.toNat 4).toArray.size = 4
    simp [I.Wd.le_length]
  have hsl : ∀ W, (Instr.slice 9 (.string S) none (some (.int .i64 (N : Int))) none).run Tryd.prog W = .ok (.string T) W := by
    intro W
    rcases hN with rfl | rfl
    · have h4 : (0 : Int) ≤ ((1 : Nat) : Int) ∧ ((1 : Nat) : Int) ≤ (S.size : Int) := by omega
      rw [run_slice_string_to_if W 9 S .i64 _ (by kernel_rfl), if_pos h4, hT, ← le_one, ← hS]; rfl
    · have h4 : (0 : Int) ≤ ((4 : Nat) : Int) ∧ ((4 : Nat) : Int) ≤ (S.size : Int) := by omega
      rw [run_slice_string_to_if W 9 S .i64 _ (by kernel_rfl), if_pos h4, hT, ← le_four, ← hS]; rfl
  rw [← hT]
  have HE := putE_two A 2 AD T
  obtain ⟨E, hE⟩ : ∃ E, E = putE A 2 AD T := ⟨_, rfl⟩
  obtain ⟨A2, hA2⟩ : ∃ A2, A2 = putR A 2 AD T := ⟨_, rfl⟩
  have HA2 : Hid (E = 50 → A2 = A) := Lib.hid fun h => by rw [hA2]; unfold putR; rw [if_neg]; intro h2; unfold putE at hE; rw [if_pos h2] at hE; omega
  have HPl : Hid (∀ w1, Do q b e n c x A w1 → Calls Tryd.prog 66 #[.pointer (some ⟨q, 0, none⟩)] w1 fun r w' => r = .returned (.int .u32 (AD : Int)) ∧ Below w1.heap.size w1 w') := Lib.hid fun w1 h1 => by
    rw [hAD]
    exact (place_any w1 h1 ha).mono (by rintro r w' ⟨h2, m, rfl⟩; exact ⟨h2, below_drewN _ _⟩)
  have HPu : Hid (∀ w1, Calls Tryd.prog 67 #[.int .u32 Y, .int .i64 4] w1 fun r w' => r = .returned (.tuple #[.string S, .int .i64 0]) ∧ Below w1.heap.size w1 w') := Lib.hid fun w1 => by
    rw [hS]; exact I.put4 Y y0 y1 w1
  have HWr : Hid (∀ w1, Do q b e n c x A w1 → Calls Tryd.prog 68 #[.pointer (some ⟨b + 1, 0, none⟩), .int .u32 (AD : Int), .string T] w1 fun r w' => r = .returned (.int .i64 E) ∧ Do q b e n c x A2 w' ∧ DT w1 w' b e q) := Lib.hid fun w1 h1 => by
    rw [hE, hA2]
    exact (write_any' b e n A AD T hADl (by omega) w1 h1.sp).mono (by rintro r w' ⟨h2, h3, h4⟩; exact ⟨h2, h1.turn h4 h3, DT.turn h4 q⟩)
  rw [← hE] at HE ⊢
  rw [← hA2]
  obtain ⟨bb, hb'⟩ : ∃ bb, bb = x.b := ⟨_, rfl⟩
  have b16 : (bb : Int) < 16 := by omega
  have HC : Hid (∀ w1 A1, Do q b e n c x A1 w1 → w1.cell? ⟨q, 20, none⟩ = some (.int .u8 (bb : Int)) ∧ w1.cell? ⟨q, bb, none⟩ = some (.int .u32 Y) ∧ w1.cell? ⟨q, 22, none⟩ = some (.pointer (some ⟨b + 1, 0, none⟩))) := Lib.hid fun w1 A1 h1 => by
    obtain ⟨c17, c18, c19, c20, c21, c22⟩ := h1.six
    exact ⟨by rw [hb']; exact c20, by rw [hY, hb']; exact h1.reg _ hb, c22⟩
  have HK := Lib.hid hk4
  have HW := Lib.hid hwa
  clear hAD hADl hE hS hT hTs hSs hY y0 y1 hA2 hd ha hb hb' s hx hc hk4 hwa hN
  replace T0 := Lib.hid T0.out.drew
  have hS0 := HC.out _ _ T0.out.s
  go_enter Tryd.func49, Tryd.ntmps49
  go_upto_region 1 with (fail)
  rw [← HW.out, ← HK.out]
  clear HW HK
  go_region_held3 (fun w' => w'.cell? ⟨q, 20, none⟩ = some (.int .u8 (bb : Int)) ∧ w'.cell? ⟨q, bb, none⟩ = some (.int .u32 Y) ∧ w'.cell? ⟨q, 22, none⟩ = some (.pointer (some ⟨b + 1, 0, none⟩)))
    (first | exact hS0 | exact hS1)
    ((first
      | (go_at_call 67; refine (HPu.out _).mono ?_; rintro r w1 ⟨rfl, q1⟩; have T1 := Lib.hid (T0.out.below q1); have hS1 := HC.out _ _ T1.out.s; clear q1)))
  clear hS0 hS1 T0 HPu b16
  replace T1 := Lib.hid T1.out.drew
  have hS1 := HC.out _ _ T1.out.s
  go_upto_region 2 with (fail)
  go_region_held3 (fun w' => w'.cell? ⟨q, 20, none⟩ = some (.int .u8 (bb : Int)) ∧ w'.cell? ⟨q, bb, none⟩ = some (.int .u32 Y) ∧ w'.cell? ⟨q, 22, none⟩ = some (.pointer (some ⟨b + 1, 0, none⟩)))
    (first | exact hS1 | exact hS2 | exact hS3)
    ((first
      | (go_at_call 66; refine (HPl.out _ T1.out.s).mono ?_; rintro r w2 ⟨rfl, q2⟩; have T2 := Lib.hid (T1.out.below q2); have hS2 := HC.out _ _ T2.out.s; clear q2)
      | (go_at_call 68; refine (HWr.out _ T2.out.s).mono ?_; rintro r w3 ⟨rfl, s3, t3⟩; have T3 := Lib.hid (T2.out.call s3 t3); have hS3 := HC.out _ _ s3; clear s3 t3)))
  clear hS1 hS2 hS3 HC HPl HWr T1 T2 hsl
  rcases HE with rfl | rfl
  · have hz0 : (0 : Int) = 0 := rfl
    clear hz0
    obtain ⟨⟨z0, z1, z2⟩, f0, f1, f2⟩ := T3.out.r.three
    have FF := Lib.hid (T3.out.stop3 (.int .u8 0) (.int .u32 0) (.int .i64 0))
    go_wp2
    refine bodyPost_ret (v := .agg #[.int .u8 0, .int .u32 0, .int .i64 0]) (res_stop Tryd.results49 _ _ k4 _ _ _ rfl FF.out.r) rfl ⟨rfl, FF.out.s, FF.out.dt⟩
  · go_wp2_with fail
    refine (fault_any 50 _).mono ?_; rintro r w4 ⟨rfl, q4⟩
    have T4 := Lib.hid (T3.out.below q4)
    clear q4 T3
    obtain ⟨⟨z0, z1, z2⟩, f0, f1, f2⟩ := T4.out.r.three
    have FF := Lib.hid (T4.out.stop3 (.int .u8 2) (.int .u32 0) (.int .i64 50))
    go_wp2
    refine bodyPost_ret (v := .agg #[.int .u8 2, .int .u32 0, .int .i64 50]) (res_stop Tryd.results49 _ _ k4 _ _ _ rfl FF.out.r) rfl ⟨rfl, FF.out.s, FF.out.dt⟩

set_option maxHeartbeats 2000000 in
set_option maxRecDepth 100000 in
theorem storeByte_any (w : World) (s : Do q b e n c x A w) (hc : c.Ok) (hx : x.Ok) (T : ByteArray) (hT : T = ⟨(I.Wd.le (c.r x.b).toNat 1).toArray⟩) :
    Calls Tryd.prog 27 #[.pointer (some ⟨q, 0, none⟩)] w fun r w' => r = .returned (.agg #[.int .u8 (ldK (putE A 2 (adr x c) T)), .int .u32 0, .int .i64 (putE A 2 (adr x c) T)]) ∧ Do q b e n c x (putR A 2 (adr x c) T) w' ∧ DT w w' b e q := by
  obtain ⟨k4, hk4⟩ : ∃ k4, k4 = w.heap.size := ⟨_, rfl⟩
  obtain ⟨wa, hwa⟩ : ∃ wa, wa = w.alloc (.cells #[.int .u8 0, .int .u32 0, .int .i64 0] 30) := ⟨_, rfl⟩
  have T0 : Hid (Dr w q b e n k4 c x A wa) := Lib.hid (by rw [hk4, hwa]; exact Dr.start s)
  have HL0 := fun w1 (h1 : Do q b e n c x A w1) => store_any w1 h1 hc hx 1 (by decide)
  rw [← hT] at HL0
  obtain ⟨E, hE⟩ : ∃ E, E = putE A 2 (adr x c) T := ⟨_, rfl⟩
  obtain ⟨A2, hA2⟩ : ∃ A2, A2 = putR A 2 (adr x c) T := ⟨_, rfl⟩
  rw [← hE, ← hA2] at HL0 ⊢
  obtain ⟨K, hK⟩ : ∃ K, K = ldK E := ⟨_, rfl⟩
  rw [← hK] at HL0 ⊢
  have HL := Lib.hid HL0
  have HK := Lib.hid hk4
  have HW := Lib.hid hwa
  clear HL0 hE hA2 hK s hx hc hT hk4 hwa
  go_enter Tryd.func27, Tryd.ntmps27
  go_upto_region 1 with (fail)
  rw [← HW.out, ← HK.out]
  clear HW HK
  go_wp2_with fail
  refine (HL.out _ T0.out.s).mono ?_; rintro r w4 ⟨rfl, s4, t4⟩
  have T3 := Lib.hid (T0.out.call s4 t4)
  clear s4 t4 T0 HL
  obtain ⟨⟨z0, z1, z2⟩, f0, f1, f2⟩ := T3.out.r.three
  have FF := Lib.hid (T3.out.stop3 (.int .u8 K) (.int .u32 0) (.int .i64 E))
  go_wp2
  refine bodyPost_ret (v := .agg #[.int .u8 K, .int .u32 0, .int .i64 E]) (res_stop Tryd.results27 _ _ k4 _ _ _ rfl FF.out.r) rfl ⟨rfl, FF.out.s, FF.out.dt⟩

set_option maxHeartbeats 2000000 in
set_option maxRecDepth 100000 in
theorem storeWord_any (w : World) (s : Do q b e n c x A w) (hc : c.Ok) (hx : x.Ok) (T : ByteArray) (hT : T = ⟨(I.Wd.le (c.r x.b).toNat 4).toArray⟩) :
    Calls Tryd.prog 28 #[.pointer (some ⟨q, 0, none⟩)] w fun r w' => r = .returned (.agg #[.int .u8 (ldK (putE A 2 (adr x c) T)), .int .u32 0, .int .i64 (putE A 2 (adr x c) T)]) ∧ Do q b e n c x (putR A 2 (adr x c) T) w' ∧ DT w w' b e q := by
  obtain ⟨k4, hk4⟩ : ∃ k4, k4 = w.heap.size := ⟨_, rfl⟩
  obtain ⟨wa, hwa⟩ : ∃ wa, wa = w.alloc (.cells #[.int .u8 0, .int .u32 0, .int .i64 0] 30) := ⟨_, rfl⟩
  have T0 : Hid (Dr w q b e n k4 c x A wa) := Lib.hid (by rw [hk4, hwa]; exact Dr.start s)
  have HL0 := fun w1 (h1 : Do q b e n c x A w1) => store_any w1 h1 hc hx 4 (by decide)
  rw [← hT] at HL0
  obtain ⟨E, hE⟩ : ∃ E, E = putE A 2 (adr x c) T := ⟨_, rfl⟩
  obtain ⟨A2, hA2⟩ : ∃ A2, A2 = putR A 2 (adr x c) T := ⟨_, rfl⟩
  rw [← hE, ← hA2] at HL0 ⊢
  obtain ⟨K, hK⟩ : ∃ K, K = ldK E := ⟨_, rfl⟩
  rw [← hK] at HL0 ⊢
  have HL := Lib.hid HL0
  have HK := Lib.hid hk4
  have HW := Lib.hid hwa
  clear HL0 hE hA2 hK s hx hc hT hk4 hwa
  go_enter Tryd.func28, Tryd.ntmps28
  go_upto_region 1 with (fail)
  rw [← HW.out, ← HK.out]
  clear HW HK
  go_wp2_with fail
  refine (HL.out _ T0.out.s).mono ?_; rintro r w4 ⟨rfl, s4, t4⟩
  have T3 := Lib.hid (T0.out.call s4 t4)
  clear s4 t4 T0 HL
  obtain ⟨⟨z0, z1, z2⟩, f0, f1, f2⟩ := T3.out.r.three
  have FF := Lib.hid (T3.out.stop3 (.int .u8 K) (.int .u32 0) (.int .i64 E))
  go_wp2
  refine bodyPost_ret (v := .agg #[.int .u8 K, .int .u32 0, .int .i64 E]) (res_stop Tryd.results28 _ _ k4 _ _ _ rfl FF.out.r) rfl ⟨rfl, FF.out.s, FF.out.dt⟩

end
end Go.Proofs.YtgdbhmlmioihpaaDoor
