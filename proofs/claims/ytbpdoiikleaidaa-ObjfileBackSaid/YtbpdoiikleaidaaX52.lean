/- ObjfileBack, walked. -/
import Derived.Test.YtbpdoiikleaidaaX48
import Derived.Test.YtbpdoiikleaidaaX51
set_option linter.unusedVariables false
set_option linter.unusedSimpArgs false
namespace Go.Proofs.Ytbpdoiikleaidaa
open Go Go.RowKit Oj Pk Of

/-- What stands in the law: the two objects that came in, and Below. -/
structure Ok2 (w0 w : World) (M : ByteArray) (n : Nat) (a : Option Addr) (c : Nat) (M2 : ByteArray) (n2 : Nat) (a2 : Option Addr) (c2 : Nat) : Prop where
  low : Below w0.heap.size w0 w
  box : Blk w w0.heap.size 24 [.string M, .slice a n c]
  box2 : Blk w (w0.heap.size + 1) 24 [.string M2, .slice a2 n2 c2]
theorem Ok2.below {w0 w w' : World} {M : ByteArray} {n : Nat} {a : Option Addr} {c : Nat} {M2 : ByteArray} {n2 : Nat} {a2 : Option Addr} {c2 : Nat} (h : Ok2 w0 w M n a c M2 n2 a2 c2) (hb : Below w.heap.size w w') : Ok2 w0 w' M n a c M2 n2 a2 c2 :=
  ⟨below_call h.low hb, h.box.call hb, h.box2.call hb⟩
theorem Ok2.alloc {w0 w : World} {M : ByteArray} {n : Nat} {a : Option Addr} {c : Nat} {M2 : ByteArray} {n2 : Nat} {a2 : Option Addr} {c2 : Nat} (h : Ok2 w0 w M n a c M2 n2 a2 c2) (o : Obj) : Ok2 w0 (w.alloc o) M n a c M2 n2 a2 c2 :=
  ⟨below_box h.low o, h.box.alloc o, h.box2.alloc o⟩
set_option maxHeartbeats 16000000 in
set_option maxRecDepth 100000 in
theorem back_any (v v' : Value) (x y : Ob) (hf : obFits x) (hf' : obFits y) (s : ByteArray) (hs : s.size ≤ 140737488355328) (w : World) (hA : ObAt w v x) (hA' : ObAt w v' y) :
    Calls Try.prog 5 #[v, v', .string s] w fun e w' => e = .returned (.bool true) ∧ Below w.heap.size w w' := by
  obtain ⟨vs, rfl, hS⟩ := hA
  obtain ⟨vs', rfl, hS'⟩ := hA'
  have HAl := Lib.hid (fun W => falive_any W)
  obtain ⟨n, hn⟩ : ∃ n, n = x.syms.length := ⟨_, rfl⟩
  obtain ⟨a, c, hvs, hsy⟩ := hS.get
  rw [← hn] at hvs hsy
  subst hvs
  obtain ⟨n2, hn2⟩ : ∃ n, n = y.syms.length := ⟨_, rfl⟩
  obtain ⟨a2, c2, hvs2, hsy2⟩ := hS'.get
  rw [← hn2] at hvs2 hsy2
  subst hvs2
  obtain ⟨M, hM⟩ : ∃ M, M = tx x.name := ⟨_, rfl⟩
  obtain ⟨M2, hM2⟩ : ∃ M, M = tx y.name := ⟨_, rfl⟩
  have hO : ∀ W, Below w.heap.size w W → ObAt W (.agg #[.string M, .slice a n c]) x := fun W hq => by rw [hM]; exact ObAt.mk (hS.below hq)
  have hO2 : ∀ W, Below w.heap.size w W → ObAt W (.agg #[.string M2, .slice a2 n2 c2]) y := fun W hq => by rw [hM2]; exact ObAt.mk (hS'.below hq)
  have HLa := Lib.hid (fun W (hq : Below w.heap.size w W) => by have := large_any _ _ (obs_fit hf) _ (obs_one (hS.below hq)); rw [← hM] at this; exact this)
  have HLa2 := Lib.hid (fun W (hq : Below w.heap.size w W) => by have := large_any _ _ (obs_fit hf') _ (obs_one (hS'.below hq)); rw [← hM2] at this; exact this)
  have HCp : Hid (∀ W, Below w.heap.size w W → Calls Try.prog 8 #[.agg #[.string M, .slice a n c]] W fun e w' => ∃ v2, e = .returned v2 ∧ ObAt w' v2 x ∧ Below W.heap.size W w') := Lib.hid (fun W (hq : Below w.heap.size w W) => rcopy_any _ x hf W (hO W hq))
  have HCp2 : Hid (∀ W, Below w.heap.size w W → Calls Try.prog 8 #[.agg #[.string M2, .slice a2 n2 c2]] W fun e w' => ∃ v2, e = .returned v2 ∧ ObAt w' v2 y ∧ Below W.heap.size W w') := Lib.hid (fun W (hq : Below w.heap.size w W) => rcopy_any _ y hf' W (hO2 W hq))
  have HFP := Lib.hid (fun v2 W (h2 : ObAt W v2 x) => fput_any v2 x hf W h2)
  have HFP2 := Lib.hid (fun v2 W (h2 : ObAt W v2 y) => fput_any v2 y hf' W h2)
  have HSm := Lib.hid (fun v2 W (hq : Below w.heap.size w W) (h2 : ObAt W v2 x) => robsame_any x hf _ _ W h2 (hO W hq))
  obtain ⟨bb, hbb, hSD⟩ : ∃ bb : Bool, (bb = true ↔ x = y) ∧ ∀ W, Below w.heap.size w W → Calls Try.prog 10 #[.agg #[.string M, .slice a n c], .agg #[.string M2, .slice a2 n2 c2]] W fun e w' => e = .returned (.bool bb) ∧ Below W.heap.size W w' := by
    by_cases he : x = y
    · refine ⟨true, by simp [he], fun W hq => ?_⟩
      have h2 := hO2 W hq
      rw [← he] at h2
      exact robsame_any x hf _ _ W (hO W hq) h2
    · exact ⟨false, by simp [he], fun W hq => robsame_no x y hf hf' he _ _ W (hO W hq) (hO2 W hq)⟩
  have HSD := Lib.hid hSD
  have hsi : (s.size : Int) ≤ 140737488355328 := by omega
  obtain ⟨p, hp⟩ : ∃ p, p = obOk x := ⟨_, rfl⟩
  obtain ⟨p2, hp2⟩ : ∃ p, p = obOk y := ⟨_, rfl⟩
  obtain ⟨Z, hZ⟩ : ∃ Z, Z = putS' x := ⟨_, rfl⟩
  obtain ⟨Z2, hZ2⟩ : ∃ Z, Z = putS' y := ⟨_, rfl⟩
  have HZZ : Hid (p = true → p2 = true → (Z.toList == Z2.toList) = bb) := Lib.hid (fun h1 h2 => by
    have k1 : obOk x = true := by rw [← hp]; exact h1
    have k2 : obOk y = true := by rw [← hp2]; exact h2
    rw [str_eq, hZ, hZ2]
    unfold putS'
    rw [if_pos k1, if_pos k2, by_tx, by_tx, Bool.eq_iff_iff, decide_eq_true_eq, hbb]
    exact ⟨fun h => enc_inj (inO_of hf k1) (inO_of hf' k2) k1 k2 h, fun h => by rw [h]⟩)
  have HGZ : Hid (p = true → ∀ W, Calls Try.prog 13 #[.string Z] W fun e w' => ∃ v : Value, e = .returned (.tuple #[v, .int .i64 0]) ∧ ObAt w' v x ∧ Below W.heap.size W w') := Lib.hid (fun h W => by
    have k1 : obOk x = true := by rw [← hp]; exact h
    have h3 := fget_any (encO x) W (encO_len k1)
    rw [getO_enc (inO_of hf k1) k1] at h3
    have e : Z = tx (encO x) := by rw [hZ]; unfold putS'; rw [if_pos k1]
    rw [e]
    refine h3.mono ?_
    rintro e w' ⟨v, c, rfl, hb, hc, ho⟩
    subst hc
    exact ⟨v, rfl, ho.ob, hb⟩)
  rw [← hp, ← hZ] at HFP
  rw [← hp2, ← hZ2] at HFP2
  have HBy : Hid (s.size ≤ 32768 → ∀ W, Calls Try.prog 13 #[.string s] W fun e w' => ∃ v : Value, ∃ c : Int, e = .returned (.tuple #[v, .int .i64 c]) ∧ Below W.heap.size W w' ∧ GetPost W.heap.size (getO (by' s)) c v w') := Lib.hid (fun h W => by
    have := fget_any (by' s) W (by rw [by_length]; omega)
    rw [tx_by] at this
    exact this)
  have HPB : Hid (∀ o, getO (by' s) = some o → ∀ v W, ObAt W v o → Calls Try.prog 9 #[v] W fun e w' => e = .returned (.tuple #[.string s, .int .i64 0]) ∧ Below W.heap.size W w') := Lib.hid (fun o ho v W h => by
    obtain ⟨k1, k2, k3⟩ := getO_some ho
    have h3 := fput_any v o (inO_fits k3) W h
    unfold putS' at h3
    rw [k1, if_pos rfl, k2, tx_by] at h3
    exact h3)
  obtain ⟨G, hG⟩ : ∃ G, G = getO (by' s) := ⟨_, rfl⟩
  rw [← hG] at HBy HPB
  have HO0 : Hid (Ok2 w ((w.alloc (.cells #[.string M, .slice a n c] 24)).alloc (.cells #[.string M2, .slice a2 n2 c2] 24)) M n a c M2 n2 a2 c2) := Lib.hid ⟨below_new2 w _ _, (Blk.new w 24 [.string M, .slice a n c]).alloc _, Blk.new2 w _ _ _⟩
  rw [← hM, ← hM2]
  clear hM hM2 hO hO2 hsy hsy2 hf hf' hS hS' hp hp2 hn hn2 hZ hZ2 hG hs hbb hSD
  go_enter Try.func5, Try.ntmps5
  go_upto_region 1 with (fail)
  obtain ⟨wb, hwb⟩ : ∃ wb, wb = (w.alloc (.cells #[.string M, .slice a n c] 24)).alloc (.cells #[.string M2, .slice a2 n2 c2] 24) := ⟨_, rfl⟩
  rw [← hwb] at HO0 ⊢
  clear hwb
  have b0 : wb.cell? ⟨w.heap.size, 0, none⟩ = some (.string M) := HO0.out.box.cell 0
  have b1 : wb.cell? ⟨w.heap.size, 1, none⟩ = some (.slice a n c) := HO0.out.box.cell 1
  go_wp2_with fail
  refine (HLa.out _ HO0.out.low).mono ?_; rintro e w1 ⟨b, rfl, _, q1⟩
  have O1 := Lib.hid ((HO0.out.alloc (.cells #[.string M, .slice a n c] 24)).below q1)
  clear q1 HO0 HLa b0 b1
  cases b
  case true =>
    go_wp2_with fail
    refine (HAl.out _).mono ?_; rintro e w2 ⟨rfl, q2⟩
    have O2 := Lib.hid (O1.out.below q2)
    clear q2
    go_wp2_with fail
    go_ret
    exact ⟨rfl, O2.out.low⟩
  have d0 : w1.cell? ⟨w.heap.size + 1, 0, none⟩ = some (.string M2) := O1.out.box2.cell 0
  have d1 : w1.cell? ⟨w.heap.size + 1, 1, none⟩ = some (.slice a2 n2 c2) := O1.out.box2.cell 1
  go_wp2_with fail
  refine (HLa2.out _ O1.out.low).mono ?_; rintro e w2 ⟨b, rfl, _, q2⟩
  have O2 := Lib.hid ((O1.out.alloc (.cells #[.string M2, .slice a2 n2 c2] 24)).below q2)
  clear q2 O1 HLa2 d0 d1
  have hcase : b = true ∨ (b = false ∧ (32768 : Int) < (s.size : Int)) ∨ (b = false ∧ (s.size : Int) ≤ 32768) := by
    cases b
    · rcases Int.lt_or_le 32768 (s.size : Int) with h | h
      · exact .inr (.inl ⟨rfl, h⟩)
      · exact .inr (.inr ⟨rfl, h⟩)
    · exact .inl rfl
  rcases hcase with rfl | ⟨rfl, hg⟩ | ⟨rfl, hg⟩
  · go_wp2_with fail
    refine (HAl.out _).mono ?_; rintro e w3 ⟨rfl, q3⟩
    have O3 := Lib.hid (O2.out.below q3)
    clear q3
    go_wp2_with fail
    go_ret
    exact ⟨rfl, O3.out.low⟩
  · go_wp2_with fail
    refine (HAl.out _).mono ?_; rintro e w3 ⟨rfl, q3⟩
    have O3 := Lib.hid (O2.out.below q3)
    clear q3
    go_wp2_with fail
    go_ret
    exact ⟨rfl, O3.out.low⟩
  have b0 : w2.cell? ⟨w.heap.size, 0, none⟩ = some (.string M) := O2.out.box.cell 0
  have b1 : w2.cell? ⟨w.heap.size, 1, none⟩ = some (.slice a n c) := O2.out.box.cell 1
  go_wp2_with fail
  refine (HCp.out _ O2.out.low).mono ?_; rintro e w3 ⟨v3, rfl, h3, q3⟩
  obtain ⟨nm3, a3, k3, c3, rfl⟩ := ob_cells h3
  have O3 := Lib.hid (O2.out.below q3)
  have H3 := Lib.hid (HFP.out _ _ h3)
  clear q3 h3 O2 b0 b1 HCp HFP
  obtain ⟨ep, hep⟩ : ∃ ep, ep = okI p := ⟨_, rfl⟩
  rw [← hep] at H3
  go_wp2_with fail
  refine H3.out.mono ?_; rintro e w4 ⟨rfl, q4⟩
  have O4 := Lib.hid (O3.out.below q4)
  clear q4 O3 H3
  have d0 : w4.cell? ⟨w.heap.size + 1, 0, none⟩ = some (.string M2) := O4.out.box2.cell 0
  have d1 : w4.cell? ⟨w.heap.size + 1, 1, none⟩ = some (.slice a2 n2 c2) := O4.out.box2.cell 1
  go_wp2_with fail
  refine (HCp2.out _ O4.out.low).mono ?_; rintro e w5 ⟨v5, rfl, h5, q5⟩
  obtain ⟨nm5, a5, k5, c5, rfl⟩ := ob_cells h5
  have O5 := Lib.hid (O4.out.below q5)
  have H5 := Lib.hid (HFP2.out _ _ h5)
  clear q5 h5 O4 d0 d1 HCp2 HFP2
  obtain ⟨ep2, hep2⟩ : ∃ ep, ep = okI p2 := ⟨_, rfl⟩
  rw [← hep2] at H5
  go_wp2_with fail
  refine H5.out.mono ?_; rintro e w6 ⟨rfl, q6⟩
  have O6 := Lib.hid (O5.out.below q6)
  clear q6 O5 H5
  have HGet := Lib.hid (HBy.out (by omega))
  clear HBy
  cases p <;> cases p2
  case' false.false =>
    have e1 : ep = 2 := hep
    have e2 : ep2 = 2 := hep2
    subst e1 e2
    clear hep hep2
    obtain ⟨w9, hw9⟩ : ∃ t, t = w6 := ⟨_, rfl⟩
    subst hw9
    have O9 := O6
    clear O6
  case' false.true =>
    have e1 : ep = 2 := hep
    have e2 : ep2 = 0 := hep2
    subst e1 e2
    clear hep hep2
    obtain ⟨w9, hw9⟩ : ∃ t, t = w6 := ⟨_, rfl⟩
    subst hw9
    have O9 := O6
    clear O6
  case' true.false =>
    have e1 : ep = 0 := hep
    have e2 : ep2 = 2 := hep2
    subst e1 e2
    clear hep hep2
    have HG7 := Lib.hid (HGZ.out rfl w6)
    go_wp2_with fail
    refine HG7.out.mono ?_; rintro e w7 ⟨v7, rfl, h7, q7⟩
    obtain ⟨nm7, a7, k7, c7, rfl⟩ := ob_cells h7
    have O7 := Lib.hid ((O6.out.below q7).alloc (.cells #[.string nm7, .slice a7 k7 c7] 24))
    have X7 := Lib.hid (Blk.new w7 24 [.string nm7, .slice a7 k7 c7])
    have V7 := Lib.hid (h7.below (below_new1 w7 (.cells #[.string nm7, .slice a7 k7 c7] 24)))
    clear q7 h7 O6 HG7
    go_upto_region 7 with (fail)
    obtain ⟨g7, hg7⟩ : ∃ t, t = w7.heap.size := ⟨_, rfl⟩
    obtain ⟨w8, hw8⟩ : ∃ t, t = w7.alloc (.cells #[.string nm7, .slice a7 k7 c7] 24) := ⟨_, rfl⟩
    rw [← hw8] at O7 X7 V7 ⊢
    rw [← hg7] at X7 ⊢
    clear hw8 hg7
    have x0 : w8.cell? ⟨g7, 0, none⟩ = some (.string nm7) := X7.out.cell 0
    have x1 : w8.cell? ⟨g7, 1, none⟩ = some (.slice a7 k7 c7) := X7.out.cell 1
    have b0 : w8.cell? ⟨w.heap.size, 0, none⟩ = some (.string M) := O7.out.box.cell 0
    have b1 : w8.cell? ⟨w.heap.size, 1, none⟩ = some (.slice a n c) := O7.out.box.cell 1
    go_wp2_with fail
    refine (HSm.out _ _ O7.out.low V7.out).mono ?_; rintro e w9 ⟨rfl, q9⟩
    have O9 := Lib.hid (O7.out.below q9)
    clear q9 O7 X7 V7 x0 x1 b0 b1
  case' true.true =>
    have e1 : ep = 0 := hep
    have e2 : ep2 = 0 := hep2
    subst e1 e2
    clear hep hep2
    have HG7 := Lib.hid (HGZ.out rfl w6)
    go_wp2_with fail
    refine HG7.out.mono ?_; rintro e w7 ⟨v7, rfl, h7, q7⟩
    obtain ⟨nm7, a7, k7, c7, rfl⟩ := ob_cells h7
    have O7 := Lib.hid ((O6.out.below q7).alloc (.cells #[.string nm7, .slice a7 k7 c7] 24))
    have X7 := Lib.hid (Blk.new w7 24 [.string nm7, .slice a7 k7 c7])
    have V7 := Lib.hid (h7.below (below_new1 w7 (.cells #[.string nm7, .slice a7 k7 c7] 24)))
    clear q7 h7 O6 HG7
    go_upto_region 7 with (fail)
    obtain ⟨g7, hg7⟩ : ∃ t, t = w7.heap.size := ⟨_, rfl⟩
    obtain ⟨w8, hw8⟩ : ∃ t, t = w7.alloc (.cells #[.string nm7, .slice a7 k7 c7] 24) := ⟨_, rfl⟩
    rw [← hw8] at O7 X7 V7 ⊢
    rw [← hg7] at X7 ⊢
    clear hw8 hg7
    have x0 : w8.cell? ⟨g7, 0, none⟩ = some (.string nm7) := X7.out.cell 0
    have x1 : w8.cell? ⟨g7, 1, none⟩ = some (.slice a7 k7 c7) := X7.out.cell 1
    have b0 : w8.cell? ⟨w.heap.size, 0, none⟩ = some (.string M) := O7.out.box.cell 0
    have b1 : w8.cell? ⟨w.heap.size, 1, none⟩ = some (.slice a n c) := O7.out.box.cell 1
    go_wp2_with fail
    refine (HSm.out _ _ O7.out.low V7.out).mono ?_; rintro e w8' ⟨rfl, q8⟩
    have O8 := Lib.hid (O7.out.below q8)
    clear q8 O7 X7 V7 x0 x1 b0 b1
    have b0 : w8'.cell? ⟨w.heap.size, 0, none⟩ = some (.string M) := O8.out.box.cell 0
    have b1 : w8'.cell? ⟨w.heap.size, 1, none⟩ = some (.slice a n c) := O8.out.box.cell 1
    have d0 : w8'.cell? ⟨w.heap.size + 1, 0, none⟩ = some (.string M2) := O8.out.box2.cell 0
    have d1 : w8'.cell? ⟨w.heap.size + 1, 1, none⟩ = some (.slice a2 n2 c2) := O8.out.box2.cell 1
    have hzz := HZZ.out (by trivial) (by trivial)
    go_wp2_with fail
    refine (HSD.out _ O8.out.low).mono ?_; rintro e w9 ⟨rfl, q9⟩
    have O9 := Lib.hid (O8.out.below q9)
    have hbbb : (bb != bb) = false := by cases bb <;> rfl
    clear q9 O8 b0 b1 d0 d1
  all_goals (
    clear HZZ HGZ HSD HSm
    go_wp2_with fail
    refine (HGet.out _).mono ?_; rintro e w10 ⟨v10, e10, rfl, q10, h10⟩
    have O10 := Lib.hid (O9.out.below q10)
    clear q10 O9 HGet
    try clear hbbb hzz
    cases G with
    | none =>
      obtain ⟨rfl, rfl⟩ := h10
      have O11 := Lib.hid (O10.out.alloc (.cells #[.string ⟨#[]⟩, .slice none 0 0] 24))
      have X11 := Lib.hid (Blk.new w10 24 [.string ⟨#[]⟩, .slice none 0 0])
      clear O10 HPB
      go_upto_region 12 with (fail)
      obtain ⟨g11, hg11⟩ : ∃ t, t = w10.heap.size := ⟨_, rfl⟩
      obtain ⟨w11, hw11⟩ : ∃ t, t = w10.alloc (.cells #[.string ⟨#[]⟩, .slice none 0 0] 24) := ⟨_, rfl⟩
      rw [← hw11] at O11 X11 ⊢
      rw [← hg11] at X11 ⊢
      clear hw11 hg11
      have x0 : w11.cell? ⟨g11, 0, none⟩ = some (.string ⟨#[]⟩) := X11.out.cell 0
      have x1 : w11.cell? ⟨g11, 1, none⟩ = some (.slice none 0 0) := X11.out.cell 1
      go_wp2_with fail
      refine (HAl.out _).mono ?_; rintro e w12 ⟨rfl, q12⟩
      have O12 := Lib.hid (O11.out.below q12)
      clear q12 O11
      go_wp2_with fail
      go_ret
      exact ⟨rfl, O12.out.low⟩
    | some o =>
      obtain ⟨rfl, ho⟩ := h10
      have h11 := ho.ob
      obtain ⟨nm11, a11, k11, c11, rfl⟩ := ob_cells h11
      have O11 := Lib.hid (O10.out.alloc (.cells #[.string nm11, .slice a11 k11 c11] 24))
      have X11 := Lib.hid (Blk.new w10 24 [.string nm11, .slice a11 k11 c11])
      have P11 := Lib.hid (HPB.out o rfl _ _ (h11.below (below_new1 w10 (.cells #[.string nm11, .slice a11 k11 c11] 24))))
      clear O10 HPB ho h11
      go_upto_region 12 with (fail)
      obtain ⟨g11, hg11⟩ : ∃ t, t = w10.heap.size := ⟨_, rfl⟩
      obtain ⟨w11, hw11⟩ : ∃ t, t = w10.alloc (.cells #[.string nm11, .slice a11 k11 c11] 24) := ⟨_, rfl⟩
      rw [← hw11] at O11 X11 P11 ⊢
      rw [← hg11] at X11 ⊢
      clear hw11 hg11
      have x0 : w11.cell? ⟨g11, 0, none⟩ = some (.string nm11) := X11.out.cell 0
      have x1 : w11.cell? ⟨g11, 1, none⟩ = some (.slice a11 k11 c11) := X11.out.cell 1
      go_wp2_with fail
      refine P11.out.mono ?_; rintro e w12 ⟨rfl, q12⟩
      have O12 := Lib.hid (O11.out.below q12)
      clear q12 O11 X11 P11 x0 x1
      go_wp2_with fail
      refine (HAl.out _).mono ?_; rintro e w13 ⟨rfl, q13⟩
      have O13 := Lib.hid (O12.out.below q13)
      clear q13 O12
      go_wp2_with fail
      go_ret
      exact ⟨rfl, O13.out.low⟩)
end Go.Proofs.Ytbpdoiikleaidaa
