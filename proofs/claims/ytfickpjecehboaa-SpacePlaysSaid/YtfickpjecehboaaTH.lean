/- The library's sort at numbers of 32 bits: pdqsort, for rows of fewer than 256. -/
import Derived.Test.YtfickpjecehboaaTG
set_option linter.unusedVariables false
namespace Go.Proofs.Ytfickpjecehboaa
open Go.RowKit Go.Sort

/-- What pdqsort does, where at most N numbers are to be sorted. -/
def PdqAt (N : Nat) : Prop := ∀ (P R : List Value) (g off cap a b limit : Nat) (d : Array Int) (w : World), b - a ≤ N → Row P R w g off d → a ≤ b → b ≤ d.size → d.size < 256 → limit < 1000 → Sort.Below ltInt a b d →
  Calls Try.prog 51 #[.slice (some ⟨g, off, none⟩) d.size cap, .int .i64 a, .int .i64 b, .int .i64 limit] w fun e w' =>
    e = .returned (.tuple #[]) ∧ (∃ d', PermIn a b d d' ∧ SortedIn ltInt a b d' ∧ Row P R w' g off d') ∧ w.grownBy w' (some g)

set_option maxHeartbeats 4000000 in
set_option maxRecDepth 1000000 in
theorem pdq_step (N : Nat) (ih : ∀ m, m < N → PdqAt m) : PdqAt N := by
  intro P R g off cap a b limit d w hN hH hab hb hsz hlim hB
  have IH := Lib.hid ih
  have HR := Lib.hid hH
  have HB := Lib.hid hB
  have HN := Lib.hid hN
  have HS := Lib.hid (And.intro hb hsz)
  clear ih hH hB hN
  go_enter Try.func51, Try.ntmps51
  go_wp2_with fail
  go_loopw [1, 2, 3, 8, 9] (fun s1 s2 s3 s8 s9 wr => ∃ (x y lim : Nat) (bal prt : Bool) (dk : Array Int), s1 = .int .i64 x ∧ s2 = .int .i64 y ∧ s3 = .int .i64 lim ∧ s8 = .bool bal ∧ s9 = .bool prt ∧ Hid (a ≤ x ∧ x ≤ y ∧ y ≤ b ∧ lim < 1000 ∧ dk.size = d.size) ∧
      Hid (Row P R wr g off dk) ∧ Hid (w.grownBy wr (some g)) ∧ Hid (Sort.Below ltInt x y dk) ∧ Hid (∀ Z, PermIn x y dk Z → SortedIn ltInt x y Z → PermIn a b d Z ∧ SortedIn ltInt a b Z)) (fun s1 s2 _ _ _ _ => (intOf s2 - intOf s1).toNat)
  case atStart => exact ⟨a, b, limit, true, true, d, rfl, rfl, rfl, rfl, rfl, Lib.hid ⟨Nat.le_refl _, hab, Nat.le_refl _, hlim, rfl⟩, HR, Lib.hid (World.grownBy.refl w _), HB, Lib.hid (fun Z h1 h2 => ⟨h1, h2⟩)⟩
  case round =>
    obtain ⟨x, y, lim, bal, prt, dk, rfl, rfl, rfl, rfl, rfl, HI, HRk, HGk, HBk, HQ⟩ := hrel
    have hsk : dk.size = d.size := HI.out.2.2.2.2
    have hax := HI.out.1
    have hxy := HI.out.2.1
    have hyb := HI.out.2.2.1
    have hlm := HI.out.2.2.2.1
    by_cases h12 : (y : Int) - (x : Int) ≤ 12
    · have HC := Lib.hid (insertion_any P R g off cap x y dk wr HRk.out HI.out.2.1 (by have := HI.out; omega) (by omega))
      rw [hsk] at HC
      have HZ := Lib.hid (insertionSort_holds swo_ltInt dk x y HI.out.2.1 (by have := HI.out; omega))
      go_wp2_with (go_at_call 55; refine HC.out.mono ?_; rintro e w2 ⟨rfl, h2, g2⟩)
      (try simp only [Exit.inBlock, Exit.then]); refine bodyPost_ret (results_none rfl _ _ _) rfl ?_
      have hz := HQ.out _ HZ.out.1 HZ.out.2
      exact ⟨rfl, ⟨_, hz.1, hz.2, h2⟩, only_trans HGk.out g2⟩
    by_cases hl0 : ((lim : Int) == 0) = true
    · have HC := Lib.hid (heap_any P R g off cap x y dk wr HRk.out (by omega) (by have := HI.out; omega) (by omega))
      rw [hsk] at HC
      have HZ := Lib.hid (heapSort_holds swo_ltInt dk x y HI.out.2.1 (by have := HI.out; omega))
      go_wp2_with (go_at_call 56; refine HC.out.mono ?_; rintro e w2 ⟨rfl, h2, g2⟩)
      (try simp only [Exit.inBlock, Exit.then]); refine bodyPost_ret (results_none rfl _ _ _) rfl ?_
      have hz := HQ.out _ HZ.out.1 HZ.out.2
      exact ⟨rfl, ⟨_, hz.1, hz.2, h2⟩, only_trans HGk.out g2⟩
    have hl0' : ((lim : Int) == 0) = false := by simpa using hl0
    have HL : Hid (1 ≤ lim) := Lib.hid (by simp at hl0; omega)
    clear hl0
    go_upto_if 35 with (fail)
    go_cut [3] (fun s3 wx => ∃ (lim' : Nat) (dj : Array Int), s3 = .int .i64 lim' ∧ Hid (lim' < 1000 ∧ PermIn x y dk dj) ∧ Hid (Row P R wx g off dj) ∧ Hid (w.grownBy wx (some g)))
    case first =>
      cases bal with
      | true =>
        go_wp2_with fail
        go_meet
        exact ⟨lim, dk, rfl, Lib.hid ⟨HI.out.2.2.2.1, permIn_refl dk x y⟩, HRk, HGk⟩
      | false =>
        have HC := Lib.hid (break_any P R g off cap x y dk wr HRk.out (by omega) (by have := HI.out; omega) (by omega))
        rw [hsk] at HC
        go_wp2_with (go_at_call 57; refine HC.out.mono ?_; rintro e w2 ⟨rfl, ⟨dj, hp, h2⟩, g2⟩)
        go_meet
        exact ⟨lim - 1, dj, by congr 1; have := HL.out; omega, Lib.hid ⟨by have := HI.out; omega, hp⟩, Lib.hid h2, Lib.hid (only_trans HGk.out g2)⟩
    case rest =>
      obtain ⟨lim1, d1, rfl, HP1, HR1, HG1⟩ := hcut
      clear HRk HGk HL hl0'
      have hs1 : d1.size = d.size := by rw [HP1.out.2.1]; exact hsk
      have HB1 := Lib.hid (HBk.out.perm (by omega) HP1.out.2)
      have HCp := Lib.hid (pivot_any P R g off cap x y d1 wc HR1.out (by omega) (by omega) (by omega))
      rw [hs1] at HCp
      go_upto_region 10 with (fail)
      go_wp2_with fail
      refine HCp.out.mono ?_; rintro e w2 ⟨⟨p0, h0, rfl, hp1, hp2⟩, q2⟩
      have HR2 := Lib.hid (HR1.out.below q2 HR1.out.lt)
      have HG2 : Hid (w.grownBy w2 (some g)) := Lib.hid (only_trans HG1.out ⟨q2.os, q2.tape, q2.output, q2.size, fun i hi _ => q2.block i hi⟩)
      have HPV := Lib.hid (And.intro hp1 hp2)
      clear HCp HR1 HG1 q2 hp1 hp2 HBk
      go_upto_if 50 with (fail)
      go_cut [11, 12] (fun s11 s12 wx => ∃ (p' : Nat) (h' : Int) (dj : Array Int), s11 = .int .i64 p' ∧ s12 = .int .i64 h' ∧ Hid (x < p' ∧ p' < y ∧ PermIn x y d1 dj) ∧ Hid (Row P R wx g off dj) ∧ Hid (w.grownBy wx (some g)))
      case first =>
        by_cases hh : (h0 == 2) = true
        · have HC := Lib.hid (reverse_any P R g off cap x y d1 w2 HR2.out (by omega) (by omega) (by omega))
          rw [hs1] at HC
          have HZ := Lib.hid (reverseRange_holds d1 x y (by omega) (by omega))
          have hp : x < p0 ∧ p0 + 1 < y := HPV.out
          go_wp2_with (go_at_call 59; refine HC.out.mono ?_; rintro e w3 ⟨rfl, h3, g3⟩)
          go_meet
          exact ⟨y - 1 - (p0 - x), 1, _, by congr 1; omega, rfl, Lib.hid ⟨by omega, by omega, HZ.out⟩, Lib.hid h3, Lib.hid (only_trans HG2.out g3)⟩
        · have hh' : (h0 == 2) = false := by simpa using hh
          clear hh
          go_wp2_with fail
          go_meet
          exact ⟨p0, h0, d1, rfl, rfl, Lib.hid ⟨HPV.out.1, by have := HPV.out; omega, permIn_refl d1 x y⟩, HR2, HG2⟩
      case rest =>
        obtain ⟨pv, hint, d2, rfl, rfl, HP2, HR3, HG3⟩ := hcut
        clear HR2 HG2 HPV
        have hs2 : d2.size = d.size := by rw [HP2.out.2.2.1]; exact hs1
        have HB2 := Lib.hid (HB1.out.perm (by omega) HP2.out.2.2)
        clear HB1
        obtain ⟨bb, hbb⟩ : ∃ bb, bb = (bal && (prt && (hint == 1))) := ⟨_, rfl⟩
        have HBB := Lib.hid hbb
        clear hbb
        obtain ⟨wk, hwk⟩ : ∃ wk, wk = wc := ⟨_, rfl⟩
        subst hwk
        go_upto_region 15 with (fail)
        go_cut [68] (fun s68 wx => s68 = .bool bb ∧ wx = wk)
        case first =>
          cases bal with
          | false =>
            go_wp2_with fail
            go_meet
            exact ⟨by rw [HBB.out]; rfl, rfl⟩
          | true =>
            cases prt with
            | false =>
              go_wp2_with fail
              go_meet
              exact ⟨by rw [HBB.out]; rfl, rfl⟩
            | true =>
              go_wp2_with fail
              go_meet
              exact ⟨by rw [HBB.out]; rfl, rfl⟩
        case rest =>
        obtain ⟨rfl, hw⟩ := hcut
        subst hw
        go_upto_if 68 with (fail)
        go_cut [] (fun wx => ∃ (dj : Array Int), Hid (PermIn x y d2 dj) ∧ Hid (Row P R wx g off dj) ∧ Hid (w.grownBy wx (some g)))
        case first =>
          have DONE : Hid (∀ w4, Row P R w4 g off (partialInsertionSort ltInt d2 x y).1 → True → w.grownBy w4 (some g) → (partialInsertionSort ltInt d2 x y).2 = true →
              (∃ d', PermIn a b d d' ∧ SortedIn ltInt a b d' ∧ Row P R w4 g off d') ∧ w.grownBy w4 (some g)) := Lib.hid fun w4 r4 _ g4 ht => by
            have hz := partialInsertionSort_holds swo_ltInt d2 x y (by omega) (by omega) HB2.out
            have hz2 := HQ.out _ (permIn_trans _ _ _ x y HP1.out.2 (permIn_trans _ _ _ x y HP2.out.2.2 hz.1)) (hz.2 ht)
            exact ⟨⟨_, hz2.1, hz2.2, r4⟩, g4⟩
          have PRM := Lib.hid (partialInsertionSort_holds swo_ltInt d2 x y (by omega) (by omega) HB2.out).1
          have HC := Lib.hid (partialIns_any P R g off cap x y d2 wc HR3.out (by omega) (by omega) (by omega))
          rw [hs2] at HC
          obtain ⟨pr, hpr⟩ : ∃ pr, pr = partialInsertionSort ltInt d2 x y := ⟨_, rfl⟩
          rw [← hpr] at HC DONE PRM
          clear hpr
          obtain ⟨dp, rp⟩ := pr
          have STAY : Hid (∃ (dj : Array Int), Hid (PermIn x y d2 dj) ∧ Hid (Row P R wc g off dj) ∧ Hid (w.grownBy wc (some g))) := Lib.hid ⟨d2, Lib.hid (permIn_refl d2 x y), HR3, HG3⟩
          cases bb with
          | false =>
            go_wp2_with fail
            go_meet
            exact STAY.out
          | true =>
            cases rp with
            | true =>
              go_wp2_with (go_at_call 60; refine HC.out.mono ?_; rintro e w4 ⟨rfl, h4, g4⟩)
              (try simp only [Exit.inBlock, Exit.then]); refine bodyPost_ret (results_none rfl _ _ _) rfl ?_
              exact ⟨rfl, DONE.out w4 h4 trivial (only_trans HG3.out g4) trivial⟩
            | false =>
              go_wp2_with (go_at_call 60; refine HC.out.mono ?_; rintro e w4 ⟨rfl, h4, g4⟩)
              go_meet
              exact ⟨dp, PRM, Lib.hid h4, Lib.hid (only_trans HG3.out g4)⟩
        case rest =>
          obtain ⟨d3, HP3, HR4, HG4⟩ := hcut
          clear HR3 HG3
          have hs3 : d3.size = d.size := by rw [HP3.out.1]; exact hs2
          have HB3 := Lib.hid (HB2.out.perm (by omega) HP3.out)
          clear HB2
          have hxp : x < pv := HP2.out.1
          have hpy : pv < y := HP2.out.2.1
          have HP13 := Lib.hid (permIn_trans _ _ _ x y HP1.out.2 (permIn_trans _ _ _ x y HP2.out.2.2 HP3.out))
          have HQ3 : Hid (∀ Z, PermIn x y d3 Z → SortedIn ltInt x y Z → PermIn a b d Z ∧ SortedIn ltInt a b Z) := Lib.hid fun Z h1 h2 => HQ.out Z (permIn_trans _ _ _ x y HP13.out h1) h2
          have hlm1 : lim1 < 1000 := HP1.out.1
          go_upto_region 17 with (fail)
          go_cut [87] (fun s87 wx => ∃ r : Bool, s87 = .bool r ∧ Hid (r = true → 0 < x ∧ ltInt d3[x - 1]! d3[pv]! = false) ∧ Hid (Row P R wx g off d3) ∧ Hid (w.grownBy wx (some g)))
          case first =>
            obtain ⟨G, hG⟩ : ∃ G : Nat → Int, ∀ t, G t = d3[t]! := ⟨fun t => d3[t]!, fun _ => rfl⟩
            have hcw : ∀ t, t < d.size → wc.cell? ⟨g, off + t, none⟩ = some (.int .u32 (G t)) := fun t ht => by
              rw [hG]; exact HR4.out.cell t (by omega)
            have hfw : ∀ t, t < d.size → wc.frozen? ⟨g, off + t, none⟩ = false := fun t _ => HR4.out.frozen t
            have HG : Hid (∀ t, G t = d3[t]!) := Lib.hid hG
            clear hG
            by_cases hx0 : 0 < x
            · have hx0z : (0 : Int) < (x : Int) := by omega
              go_wp2_with fail
              go_big_quiet (first | (go_at_call 61; refine Calls.quiet_of_same (less_any _ _ _)))
              go_wp2_with fail
              go_meet
              exact ⟨_, rfl, Lib.hid (fun h => ⟨hx0, by rw [HG.out, HG.out] at h; simpa using h⟩), HR4, Lib.hid (only_drewN HG4.out nq)⟩
            · have hx0z : decide ((0 : Int) < (x : Int)) = false := decide_eq_false (by omega)
              go_wp2_with fail
              go_big_quiet (first | (go_at_call 61; refine Calls.quiet_of_same (less_any _ _ _)))
              go_wp2_with fail
              go_meet
              exact ⟨false, rfl, Lib.hid (fun h => by cases h), HR4, Lib.hid (only_drewN HG4.out nq)⟩
          case rest =>
            obtain ⟨r, rfl, HT, HR5, HG5⟩ := hcut
            clear HR4 HG4
            cases r with
            | true =>
              obtain ⟨hx0, hnl⟩ := HT.out rfl
              obtain ⟨mid, d4, hpe⟩ : ∃ mid d4, partitionEqual ltInt d3 x y pv = (mid, d4) := ⟨_, _, rfl⟩
              have HC := Lib.hid (parteq_any P R g off cap x y pv d3 wc HR5.out hxp hpy (by omega) (by omega))
              rw [hpe, hs3] at HC
              obtain ⟨m1, m2, m3, m4, m5⟩ := round_eq swo_ltInt (partitionEqual_holds ltInt) hx0 (by omega) hpy (by omega) HB3.out hnl hpe
              have HM := Lib.hid (And.intro m4 m5)
              have hs4 : d4.size = d.size := by rw [m3]; exact hs3
              clear hpe hnl m3 m4 m5
              go_wp2_with (go_at_call 62; refine HC.out.mono ?_; rintro e w5 ⟨rfl, h5, g5⟩)
              go_roundw
              case rel =>
                refine ⟨mid, y, lim1, bal, prt, d4, rfl, rfl, rfl, rfl, rfl, Lib.hid ⟨by omega, by omega, by omega, hlm1, hs4⟩, Lib.hid h5, Lib.hid (only_trans HG5.out g5), Lib.hid HM.out.1, Lib.hid fun Z h1 h2 => ?_⟩
                have hz := HM.out.2 Z h1 h2
                exact HQ3.out Z hz.1 hz.2
              case measure => simp [intOf] <;> omega
            | false =>
              obtain ⟨mid, ap, d4, hpt⟩ : ∃ mid ap d4, partition ltInt d3 x y pv = (mid, ap, d4) := ⟨_, _, _, rfl⟩
              have HC := Lib.hid (part_any P R g off cap x y pv d3 wc HR5.out hxp hpy (by omega) (by omega))
              rw [hpt, hs3] at HC
              obtain ⟨m1, m2, m3, m4, m5, m6, m7⟩ := round_part swo_ltInt (partition_holds ltInt) (by omega) hpy (by omega) HB3.out hpt
              have HM4 := Lib.hid m4
              have HM5 := Lib.hid m5
              have HM6 := Lib.hid m6
              have HM7 := Lib.hid m7
              have hs4 : d4.size = d.size := by rw [m3]; exact hs3
              have hN' : y - x ≤ N := by have := HN.out; omega
              clear hpt m3 m4 m5 m6 m7
              by_cases hlr : (mid : Int) - (x : Int) < (y : Int) - (mid : Int)
              · have REC := Lib.hid fun w5 (h5 : Row P R w5 g off d4) => IH.out (N - 1) (by omega) P R g off cap x mid lim1 d4 w5 (by omega) h5 m1 (by omega) (by omega) hlm1 HM4.out
                rw [hs4] at REC
                go_wp2_with (go_at_call 63; refine HC.out.mono ?_; rintro e w5 ⟨rfl, h5, g5⟩)
                have HR6 := Lib.hid h5
                have HG6 := Lib.hid (only_trans HG5.out g5)
                clear h5 g5 HC HR5 HG5
                refine (REC.out _ HR6.out).mono ?_; rintro e w6 ⟨rfl, ⟨L, l1, l2, h6⟩, g6⟩
                have HL := Lib.hid (And.intro l1 l2)
                have hsL : L.size = d.size := by rw [l1.1]; exact hs4
                have HR7 := Lib.hid h6
                have HG7 := Lib.hid (only_trans HG6.out g6)
                clear l1 l2 h6 g6 HR6 HG6
                go_wp2
                go_roundw
                case rel =>
                  obtain ⟨k1, k2⟩ := HM6.out L HL.out.1 HL.out.2
                  refine ⟨mid + 1, y, lim1, _, ap, L, by go_num, rfl, rfl, rfl, rfl, Lib.hid ⟨by omega, by omega, by omega, hlm1, hsL⟩, HR7, HG7, Lib.hid k1, Lib.hid fun Z h1 h2 => ?_⟩
                  have hz := k2 Z h1 h2
                  exact HQ3.out Z hz.1 hz.2
                case measure => simp [intOf] <;> omega
              · have REC := Lib.hid fun w5 (h5 : Row P R w5 g off d4) => IH.out (N - 1) (by omega) P R g off cap (mid + 1) y lim1 d4 w5 (by omega) h5 (by omega) (by omega) (by omega) hlm1 HM5.out
                rw [hs4] at REC
                go_wp2_with (go_at_call 63; refine HC.out.mono ?_; rintro e w5 ⟨rfl, h5, g5⟩)
                have HR6 := Lib.hid h5
                have HG6 := Lib.hid (only_trans HG5.out g5)
                clear h5 g5 HC HR5 HG5
                refine (REC.out _ HR6.out).mono ?_; rintro e w6 ⟨rfl, ⟨L, l1, l2, h6⟩, g6⟩
                have HL := Lib.hid (And.intro l1 l2)
                have hsL : L.size = d.size := by rw [l1.1]; exact hs4
                have HR7 := Lib.hid h6
                have HG7 := Lib.hid (only_trans HG6.out g6)
                clear l1 l2 h6 g6 HR6 HG6
                go_wp2
                go_roundw
                case rel =>
                  obtain ⟨k1, k2⟩ := HM7.out L HL.out.1 HL.out.2
                  refine ⟨x, mid, lim1, _, ap, L, rfl, rfl, rfl, rfl, rfl, Lib.hid ⟨by omega, by omega, by omega, hlm1, hsL⟩, HR7, HG7, Lib.hid k1, Lib.hid fun Z h1 h2 => ?_⟩
                  have hz := k2 Z h1 h2
                  exact HQ3.out Z hz.1 hz.2
                case measure => simp [intOf] <;> omega

theorem pdq_all : ∀ N, PdqAt N := fun N => Nat.strongRecOn N fun n ih => pdq_step n fun m hm => ih m hm
end Go.Proofs.Ytfickpjecehboaa
