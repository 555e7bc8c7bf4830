/- PackReads, given what the program's package pack is held to. -/
import Derived.Test.YtijfdnaolgbpmaaPL
import Derived.Test.YtijfdnaolgbpmaaPQ
import Derived.BigQuiet
set_option linter.unusedVariables false
namespace Go.Proofs.Ytijfdnaolgbpmaa
open Go Go.RowKit Pk

section
variable {Rep : List Value → Rd → Prop}
set_option maxHeartbeats 4000000 in
set_option maxRecDepth 100000 in
theorem reads_long (h : PackOK Rep) (s : ByteArray) (a : Option Addr) (n c : Nat) (w : World) (hn : (n : Int) ≤ 281474976710656) (hs : 65536 < s.size ∨ 200 < n) :
    Calls Try.prog 4 #[.string s, .slice a n c] w fun e w' => e = .returned (.bool true) ∧ Below w.heap.size w w' := by
  have HA := Lib.hid (palive_any h w)
  by_cases h1 : 65536 < s.size
  · have h1' : (65536 : Int) < (s.size : Int) := by omega
    have hd : decide ((65536 : Int) < (s.size : Int)) = true := decide_eq_true h1'
    clear h hs h1
    go_enter Try.func4, Try.ntmps4
    go_wp2_with fail
    refine HA.out.mono ?_; rintro e w2 ⟨rfl, q2⟩
    have HQ := Lib.hid q2
    clear q2
    go_wp2
    go_ret
    exact ⟨rfl, HQ.out⟩
  · have h1' : ¬ (65536 : Int) < (s.size : Int) := by omega
    have hd : decide ((65536 : Int) < (s.size : Int)) = false := decide_eq_false h1'
    have h2 : (200 : Int) < (n : Int) := by omega
    have hd2 : decide ((200 : Int) < (n : Int)) = true := decide_eq_true h2
    clear h hs h1
    go_enter Try.func4, Try.ntmps4
    go_wp2_with fail
    refine HA.out.mono ?_; rintro e w2 ⟨rfl, q2⟩
    have HQ := Lib.hid q2
    clear q2
    go_wp2
    go_ret
    exact ⟨rfl, HQ.out⟩

set_option maxHeartbeats 8000000 in
set_option maxRecDepth 100000 in
theorem reads_main (h : PackOK Rep) (s : ByteArray) (a : Option Addr) (n c : Nat) (D N : Nat → Int) (w : World) (hl : StArg w a n D N) (hn : n ≤ 200) (hs : s.size ≤ 65536) :
    Calls Try.prog 4 #[.string s, .slice a n c] w fun e w' => e = .returned (.bool true) ∧ Below w.heap.size w w' := by
  have HA := Lib.hid (fun w1 => palive_any h w1)
  have HNew := Lib.hid (h.new s w (by omega))
  have h1 : ¬ (65536 : Int) < (s.size : Int) := by omega
  have h2 : (n : Int) ≤ 200 := by omega
  have hd : decide ((65536 : Int) < (s.size : Int)) = false := decide_eq_false h1
  have hd2 : decide ((200 : Int) < (n : Int)) = false := decide_eq_false (by omega)
  have HH := Lib.hid h
  have HS := Lib.hid hl
  have hs0 := Lib.hid (show (by' s).length ≤ 65536 from hs)
  clear h hl hs hn
  go_enter Try.func4, Try.ntmps4
  go_wp2_with fail
  refine HNew.out.mono ?_; rintro e w1 ⟨p, rfl, hp, hd1, q1⟩
  obtain ⟨g, hg⟩ : ∃ g, g = w1.heap.size := ⟨_, rfl⟩
  obtain ⟨wa, hwa⟩ : ∃ wa, wa = w1.alloc (.cells #[.string s, .int .i64 0] 39) := ⟨_, rfl⟩
  have R0 : Hid (Rs Rep w p g ⟨by' s, 0⟩ ⟨by' s, 0⟩ wa) := Lib.hid (by rw [hg, hwa]; exact Rs.new hp hd1 q1)
  have HW := Lib.hid (And.intro hg hwa)
  clear hp hd1 q1 hg hwa HNew h1 hd hd2
  go_upto_region 5 with (fail)
  rw [← HW.out.2, ← HW.out.1]
  clear HW
  go_wp2_with fail
  go_loopw [7] (fun i wr => ∃ (k : Nat) (r : Rd), (k : Int) ≤ n ∧ i = .int .i64 k ∧ Hid (Rs Rep w p g r r wr) ∧ Hid (r.S.length ≤ 65536)) (fun i _ => n - (intOf i).toNat)
  case atStart => exact ⟨0, _, by omega, rfl, R0, hs0⟩
  case round =>
    clear R0 hs0
    obtain ⟨k, r, hk, rfl, HR, HL⟩ := hrel
    by_cases hlt : k < n
    · obtain ⟨b, o, rfl, hbl, c1, c2⟩ := HS.out k hlt
      have HC : Hid (∀ w1 r q, Rs Rep w p g r q w1 → w1.cell? ⟨b, o + k * 2, none⟩ = some (.int .i64 (D k)) ∧ w1.cell? ⟨b, o + k * 2 + 1, none⟩ = some (.int .i64 (N k))) := Lib.hid fun w1 r q R => ⟨(R.low.cell (p := ⟨b, o + k * 2, none⟩) hbl).trans c1, (R.low.cell (p := ⟨b, o + k * 2 + 1, none⟩) hbl).trans c2⟩
      clear c1 c2 hbl
      obtain ⟨d, hd⟩ : ∃ d, d = D k := ⟨_, rfl⟩
      obtain ⟨m, hm⟩ : ∃ m, m = N k := ⟨_, rfl⟩
      rw [← hd, ← hm] at HC
      clear hd hm
      obtain ⟨c1, c2⟩ := HC.out _ _ _ HR.out
      by_cases h0 : d = 0
      · subst h0
        have HP := Lib.hid (HH.out.take wr p r m HR.out.d (by have := HL.out; omega))
        have HD := Lib.hid (fun w1 (q : RdAt w1 g r) => rdtake_any m w1 q (by have := HL.out; omega))
        have HL2 : Hid ((take r m).2.S.length ≤ 65536) := Lib.hid (Nat.le_trans (take_len m) HL.out)
        unfold PdPost at HP
        unfold RdPost at HD
        obtain ⟨T, hT⟩ : ∃ T, T = tx (take r m).1 := ⟨_, rfl⟩
        rw [← hT] at HP HD
        obtain ⟨r2, hr2⟩ : ∃ r2, r2 = (take r m).2 := ⟨_, rfl⟩
        rw [← hr2] at HP HD HL2
        have HLe := Lib.hid (fun w1 (q : PdAt Rep w1 p r2) => HH.out.left w1 p r2 q (by have := HL2.out; omega))
        have HFa := Lib.hid (fun w1 (q : PdAt Rep w1 p r2) => HH.out.fault w1 p r2 q)
        have HCe := Lib.hid (fun w1 (q : RdAt w1 g r2) => q.cells)
        obtain ⟨E2, hE2⟩ : ∃ E2, E2 = r2.E := ⟨_, rfl⟩
        obtain ⟨TS, hTS⟩ : ∃ TS, TS = tx r2.S := ⟨_, rfl⟩
        have hsz : r2.S.length = TS.size := by rw [hTS, tx_size]
        rw [hsz] at HLe
        rw [← hE2] at HP HD HFa HCe
        rw [← hTS] at HCe
        have a2 := self_int E2
        have a3 : ((TS.size : Int) != (TS.size : Int)) = false := by simp
        have a4 : (E2 != E2) = false := by simp
        have a1 := self_eq T
        clear hT
        clear hr2 hE2 hTS hsz
        go_wp2_with fail
        refine HP.out.mono ?_; rintro e w2 ⟨rfl, d2, g2⟩
        have R2 := Lib.hid (HR.out.prog d2 g2)
        clear d2 g2 HP HR c1 c2
        obtain ⟨c1, c2⟩ := HC.out _ _ _ R2.out
        go_wp2_with fail
        refine (HD.out _ R2.out.e).mono ?_; rintro e w3 ⟨rfl, e3, g3⟩
        have R3 := Lib.hid (R2.out.doc e3 g3)
        clear e3 g3 HD R2 c1 c2 HC
        go_upto_region 27 with (fail)
        have HLe2 := Lib.hid (fun q => HLe.out (World.drewN w3 q) (R3.out.drewN q).d)
        have HFa2 := Lib.hid (fun q => HFa.out (World.drewN w3 q) (R3.out.drewN q).d)
        obtain ⟨c0, c1, _, _⟩ := HCe.out _ R3.out.e
        go_quiet (first | (go_at_call 27; exact Calls.quiet_of (HLe2.out _)) | (go_at_call 28; exact Calls.quiet_of (HFa2.out _)))
        have RZ := Lib.hid (R3.out.drewN nq)
        go_wp2
        go_roundw
        case rel => exact ⟨k + 1, r2, by omega, by go_num, RZ, HL2⟩
        case measure => simp [intOf]; omega
      by_cases h1 : d = 1
      · subst h1
        have HP := Lib.hid (HH.out.rnum wr p r m HR.out.d (by have := HL.out; omega))
        have HD := Lib.hid (fun w1 (q : RdAt w1 g r) => rdnum_any m w1 q (by have := HL.out; omega))
        have HL2 : Hid ((Pk.num r m).2.S.length ≤ 65536) := Lib.hid (Nat.le_trans (num_len m) HL.out)
        unfold PdPost at HP
        unfold RdPost at HD
        obtain ⟨V, hV⟩ : ∃ V : Int, V = ((Pk.num r m).1 : Nat) := ⟨_, rfl⟩
        rw [← hV] at HP HD
        obtain ⟨r2, hr2⟩ : ∃ r2, r2 = (Pk.num r m).2 := ⟨_, rfl⟩
        rw [← hr2] at HP HD HL2
        have HLe := Lib.hid (fun w1 (q : PdAt Rep w1 p r2) => HH.out.left w1 p r2 q (by have := HL2.out; omega))
        have HFa := Lib.hid (fun w1 (q : PdAt Rep w1 p r2) => HH.out.fault w1 p r2 q)
        have HCe := Lib.hid (fun w1 (q : RdAt w1 g r2) => q.cells)
        obtain ⟨E2, hE2⟩ : ∃ E2, E2 = r2.E := ⟨_, rfl⟩
        obtain ⟨TS, hTS⟩ : ∃ TS, TS = tx r2.S := ⟨_, rfl⟩
        have hsz : r2.S.length = TS.size := by rw [hTS, tx_size]
        rw [hsz] at HLe
        rw [← hE2] at HP HD HFa HCe
        rw [← hTS] at HCe
        have a2 := self_int E2
        have a3 : ((TS.size : Int) != (TS.size : Int)) = false := by simp
        have a4 : (E2 != E2) = false := by simp
        have a1 := self_int V
        clear hV
        clear hr2 hE2 hTS hsz
        go_wp2_with fail
        refine HP.out.mono ?_; rintro e w2 ⟨rfl, d2, g2⟩
        have R2 := Lib.hid (HR.out.prog d2 g2)
        clear d2 g2 HP HR c1 c2
        obtain ⟨c1, c2⟩ := HC.out _ _ _ R2.out
        go_wp2_with fail
        refine (HD.out _ R2.out.e).mono ?_; rintro e w3 ⟨rfl, e3, g3⟩
        have R3 := Lib.hid (R2.out.doc e3 g3)
        clear e3 g3 HD R2 c1 c2 HC
        go_upto_region 27 with (fail)
        have HLe2 := Lib.hid (fun q => HLe.out (World.drewN w3 q) (R3.out.drewN q).d)
        have HFa2 := Lib.hid (fun q => HFa.out (World.drewN w3 q) (R3.out.drewN q).d)
        obtain ⟨c0, c1, _, _⟩ := HCe.out _ R3.out.e
        go_quiet (first | (go_at_call 27; exact Calls.quiet_of (HLe2.out _)) | (go_at_call 28; exact Calls.quiet_of (HFa2.out _)))
        have RZ := Lib.hid (R3.out.drewN nq)
        go_wp2
        go_roundw
        case rel => exact ⟨k + 1, r2, by omega, by go_num, RZ, HL2⟩
        case measure => simp [intOf]; omega
      by_cases h2 : d = 2
      · subst h2
        have HP := Lib.hid (HH.out.rtext wr p r HR.out.d (by have := HL.out; omega))
        have HD := Lib.hid (fun w1 (q : RdAt w1 g r) => rdtext_any w1 q (by have := HL.out; omega))
        have HL2 : Hid ((text r).2.S.length ≤ 65536) := Lib.hid (Nat.le_trans text_len HL.out)
        unfold PdPost at HP
        unfold RdPost at HD
        obtain ⟨T, hT⟩ : ∃ T, T = tx (text r).1 := ⟨_, rfl⟩
        rw [← hT] at HP HD
        obtain ⟨r2, hr2⟩ : ∃ r2, r2 = (text r).2 := ⟨_, rfl⟩
        rw [← hr2] at HP HD HL2
        have HLe := Lib.hid (fun w1 (q : PdAt Rep w1 p r2) => HH.out.left w1 p r2 q (by have := HL2.out; omega))
        have HFa := Lib.hid (fun w1 (q : PdAt Rep w1 p r2) => HH.out.fault w1 p r2 q)
        have HCe := Lib.hid (fun w1 (q : RdAt w1 g r2) => q.cells)
        obtain ⟨E2, hE2⟩ : ∃ E2, E2 = r2.E := ⟨_, rfl⟩
        obtain ⟨TS, hTS⟩ : ∃ TS, TS = tx r2.S := ⟨_, rfl⟩
        have hsz : r2.S.length = TS.size := by rw [hTS, tx_size]
        rw [hsz] at HLe
        rw [← hE2] at HP HD HFa HCe
        rw [← hTS] at HCe
        have a2 := self_int E2
        have a3 : ((TS.size : Int) != (TS.size : Int)) = false := by simp
        have a4 : (E2 != E2) = false := by simp
        have a1 := self_eq T
        clear hT
        clear hr2 hE2 hTS hsz
        go_wp2_with fail
        refine HP.out.mono ?_; rintro e w2 ⟨rfl, d2, g2⟩
        have R2 := Lib.hid (HR.out.prog d2 g2)
        clear d2 g2 HP HR c1 c2
        obtain ⟨c1, c2⟩ := HC.out _ _ _ R2.out
        go_wp2_with fail
        refine (HD.out _ R2.out.e).mono ?_; rintro e w3 ⟨rfl, e3, g3⟩
        have R3 := Lib.hid (R2.out.doc e3 g3)
        clear e3 g3 HD R2 c1 c2 HC
        go_upto_region 27 with (fail)
        have HLe2 := Lib.hid (fun q => HLe.out (World.drewN w3 q) (R3.out.drewN q).d)
        have HFa2 := Lib.hid (fun q => HFa.out (World.drewN w3 q) (R3.out.drewN q).d)
        obtain ⟨c0, c1, _, _⟩ := HCe.out _ R3.out.e
        go_quiet (first | (go_at_call 27; exact Calls.quiet_of (HLe2.out _)) | (go_at_call 28; exact Calls.quiet_of (HFa2.out _)))
        have RZ := Lib.hid (R3.out.drewN nq)
        go_wp2
        go_roundw
        case rel => exact ⟨k + 1, r2, by omega, by go_num, RZ, HL2⟩
        case measure => simp [intOf]; omega
      by_cases h3 : d = 3
      · subst h3
        have HP := Lib.hid (HH.out.rtexts wr p r HR.out.d (by have := HL.out; omega))
        have HD := Lib.hid (fun w1 (q : RdAt w1 g r) => rdtexts_any w1 q (by have := HL.out; omega))
        have HL2 : Hid ((texts r).2.S.length ≤ 65536) := Lib.hid (Nat.le_trans texts_len HL.out)
        have HLt := Lib.hid (show g < wr.heap.size from Blk.lt HR.out.e)
        unfold PdPostL at HP
        unfold RdPostL at HD
        have HSa := Lib.hid (fun u u2 w1 (q : SlAt w1 u (texts r).1) (q2 : SlAt w1 u2 (texts r).1) => rsame_any u u2 _ _ w1 q q2 (Nat.le_trans texts_many (by decide)))
        rw [decide_eq_true (show (texts r).1 = (texts r).1 from rfl)] at HSa
        obtain ⟨L, hL⟩ : ∃ L, L = (texts r).1 := ⟨_, rfl⟩
        rw [← hL] at HP HD HSa
        obtain ⟨r2, hr2⟩ : ∃ r2, r2 = (texts r).2 := ⟨_, rfl⟩
        rw [← hr2] at HP HD HL2
        have HLe := Lib.hid (fun w1 (q : PdAt Rep w1 p r2) => HH.out.left w1 p r2 q (by have := HL2.out; omega))
        have HFa := Lib.hid (fun w1 (q : PdAt Rep w1 p r2) => HH.out.fault w1 p r2 q)
        have HCe := Lib.hid (fun w1 (q : RdAt w1 g r2) => q.cells)
        obtain ⟨E2, hE2⟩ : ∃ E2, E2 = r2.E := ⟨_, rfl⟩
        obtain ⟨TS, hTS⟩ : ∃ TS, TS = tx r2.S := ⟨_, rfl⟩
        have hsz : r2.S.length = TS.size := by rw [hTS, tx_size]
        rw [hsz] at HLe
        rw [← hE2] at HP HD HFa HCe
        rw [← hTS] at HCe
        have a2 := self_int E2
        have a3 : ((TS.size : Int) != (TS.size : Int)) = false := by simp
        have a4 : (E2 != E2) = false := by simp
        clear hL hr2 hE2 hTS hsz
        go_wp2_with fail
        refine HP.out.mono ?_; rintro e w2 ⟨v, rfl, o2, d2, g2⟩
        have R2 := Lib.hid (HR.out.prog d2 g2)
        have O2 := Lib.hid o2
        clear d2 g2 o2 HP HR c1 c2 HC
        go_wp2_with fail
        refine (HD.out _ R2.out.e).mono ?_; rintro e w3 ⟨v2, rfl, o3, e3, g3⟩
        have R3 := Lib.hid (R2.out.doc e3 g3)
        have S2 := Lib.hid (O2.out.grown g3 HLt.out).slAt
        have S3 := Lib.hid o3.slAt
        clear e3 g3 o3 HD R2 O2 HLt
        go_wp2_with fail
        refine (HSa.out _ _ _ S2.out S3.out).mono ?_; rintro e w4 ⟨rfl, m4, e4⟩
        have R4 : Hid (Rs Rep w p g r2 r2 w4) := Lib.hid (by rw [e4]; exact R3.out.drewN _)
        clear e4 R3 S2 S3 HSa
        go_upto_region 27 with (fail)
        have HLe2 := Lib.hid (fun q => HLe.out (World.drewN w4 q) (R4.out.drewN q).d)
        have HFa2 := Lib.hid (fun q => HFa.out (World.drewN w4 q) (R4.out.drewN q).d)
        obtain ⟨c0, c1, _, _⟩ := HCe.out _ R4.out.e
        go_quiet (first | (go_at_call 27; exact Calls.quiet_of (HLe2.out _)) | (go_at_call 28; exact Calls.quiet_of (HFa2.out _)))
        have RZ := Lib.hid (R4.out.drewN nq)
        go_wp2
        go_roundw
        case rel => exact ⟨k + 1, r2, by omega, by go_num, RZ, HL2⟩
        case measure => simp [intOf]; omega
      · have b0 : (d == 0) = false := beq_eq_false_iff_ne.2 h0
        have b1 : (d == 1) = false := beq_eq_false_iff_ne.2 h1
        have b2 : (d == 2) = false := beq_eq_false_iff_ne.2 h2
        have b3 : (d == 3) = false := beq_eq_false_iff_ne.2 h3
        have HP := Lib.hid (HH.out.fin wr p r HR.out.d (by have := HL.out; omega))
        have HD := Lib.hid (fun w1 (q : RdAt w1 g r) => rdend_any w1 q)
        have HL2 : Hid ((fin r).S.length ≤ 65536) := Lib.hid (by rw [fin_len]; exact HL.out)
        obtain ⟨r2, hr2⟩ : ∃ r2, r2 = fin r := ⟨_, rfl⟩
        rw [← hr2] at HP HD HL2
        have HLe := Lib.hid (fun w1 (q : PdAt Rep w1 p r2) => HH.out.left w1 p r2 q (by have := HL2.out; omega))
        have HFa := Lib.hid (fun w1 (q : PdAt Rep w1 p r2) => HH.out.fault w1 p r2 q)
        have HCe := Lib.hid (fun w1 (q : RdAt w1 g r2) => q.cells)
        obtain ⟨E2, hE2⟩ : ∃ E2, E2 = r2.E := ⟨_, rfl⟩
        obtain ⟨TS, hTS⟩ : ∃ TS, TS = tx r2.S := ⟨_, rfl⟩
        have hsz : r2.S.length = TS.size := by rw [hTS, tx_size]
        rw [hsz] at HLe
        rw [← hE2] at HP HD HFa HCe
        rw [← hTS] at HCe
        have a2 := self_int E2
        have a3 : ((TS.size : Int) != (TS.size : Int)) = false := by simp
        have a4 : (E2 != E2) = false := by simp
        clear h0 h1 h2 h3
        clear hr2 hE2 hTS hsz
        go_wp2_with fail
        refine HP.out.mono ?_; rintro e w2 ⟨rfl, d2, g2⟩
        have R2 := Lib.hid (HR.out.prog d2 g2)
        clear d2 g2 HP HR c1 c2
        obtain ⟨c1, c2⟩ := HC.out _ _ _ R2.out
        go_wp2_with fail
        refine (HD.out _ R2.out.e).mono ?_; rintro e w3 ⟨rfl, e3, g3⟩
        have R3 := Lib.hid (R2.out.doc e3 g3)
        clear e3 g3 HD R2 c1 c2 HC
        go_upto_region 27 with (fail)
        have HLe2 := Lib.hid (fun q => HLe.out (World.drewN w3 q) (R3.out.drewN q).d)
        have HFa2 := Lib.hid (fun q => HFa.out (World.drewN w3 q) (R3.out.drewN q).d)
        obtain ⟨c0, c1, _, _⟩ := HCe.out _ R3.out.e
        go_quiet (first | (go_at_call 27; exact Calls.quiet_of (HLe2.out _)) | (go_at_call 28; exact Calls.quiet_of (HFa2.out _)))
        have RZ := Lib.hid (R3.out.drewN nq)
        go_wp2
        go_roundw
        case rel => exact ⟨k + 1, r2, by omega, by go_num, RZ, HL2⟩
        case measure => simp [intOf]; omega
    · clear HS
      go_wp2_with fail
      refine (HA.out _).mono ?_; rintro e w2 ⟨rfl, q2⟩
      have HQ := Lib.hid (HR.out.below q2).low
      clear q2
      go_wp2
      go_ret
      exact ⟨rfl, HQ.out⟩
theorem reads_any (h : PackOK Rep) (s : ByteArray) (a : Option Addr) (n c : Nat) (D N : Nat → Int) (w : World) (hl : StArg w a n D N) (hn : (n : Int) ≤ 281474976710656) :
    Calls Try.prog 4 #[.string s, .slice a n c] w fun e w' => e = .returned (.bool true) ∧ Below w.heap.size w w' := by
  by_cases h1 : 65536 < s.size ∨ 200 < n
  · exact reads_long h s a n c w hn h1
  · exact reads_main h s a n c D N w hl (by omega) (by omega)
end
end Go.Proofs.Ytijfdnaolgbpmaa
