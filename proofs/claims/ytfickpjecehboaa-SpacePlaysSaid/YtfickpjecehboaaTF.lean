/- The library's sort at numbers of 32 bits: which pivot is chosen. -/
import Derived.Test.YtfickpjecehboaaTE
set_option linter.unusedVariables false
namespace Go.Proofs.Ytfickpjecehboaa
open Go.RowKit Go.Sort

/-- A counter of the call's own. -/
def Cnt (w : World) (sp : Nat) : Prop := ∃ v : Int, Blk w sp 3 [.int .i64 v]

set_option maxHeartbeats 2000000 in
set_option maxRecDepth 100000 in
theorem order2_any (P R : List Value) (g off cap a b sp : Nat) (d : Array Int) (w : World) (hH : Row P R w g off d) (ha : a < d.size) (hb : b < d.size) (hsz : d.size < 1099511627776) (hne : sp ≠ g) (hc : Cnt w sp) :
    Calls Try.prog 74 #[.slice (some ⟨g, off, none⟩) d.size cap, .int .i64 a, .int .i64 b, .pointer (some ⟨sp, 0, none⟩)] w fun e w' =>
      (∃ x y : Nat, e = .returned (.tuple #[.int .i64 x, .int .i64 y]) ∧ ((x = a ∧ y = b) ∨ (x = b ∧ y = a))) ∧ Row P R w' g off d ∧ Cnt w' sp ∧ w.grownBy w' (some sp) := by
  obtain ⟨v, hv⟩ := hc
  have HR := Lib.hid hH
  have HV := Lib.hid hv
  obtain ⟨G, hG⟩ : ∃ G : Nat → Int, ∀ t, G t = d[t]! := ⟨fun t => d[t]!, fun _ => rfl⟩
  have hcw : ∀ t, t < d.size → w.cell? ⟨g, off + t, none⟩ = some (.int .u32 (G t)) := fun t ht => by
    rw [hG]; exact HR.out.cell t (by omega)
  have hcs : w.cell? ⟨sp, 0, none⟩ = some (.int .i64 v) := hv.cell 0
  have hfs : w.frozen? ⟨sp, 0, none⟩ = false := hv.frozen 0
  clear hG hH hv
  go_enter Try.func74, Try.ntmps74
  go_wp2_with fail
  go_quiet (first | (go_at_call 61; refine Calls.quiet_of_same (less_any _ _ _)))
  have hcs2 : (w.drewN nq).cell? ⟨sp, 0, none⟩ = some (.int .i64 v) := hcs
  have hfs2 : (w.drewN nq).frozen? ⟨sp, 0, none⟩ = false := hfs
  have HR2 : Hid (Row P R (w.drewN nq) g off d) := HR
  have HV2 : Hid (Blk (w.drewN nq) sp 3 [.int .i64 v]) := HV
  have HG2 : Hid (w.grownBy (w.drewN nq) (some sp)) := Lib.hid (only_drewN (World.grownBy.refl w _) nq)
  clear hcw hcs hfs HR HV
  generalize w.drewN nq = w2 at hcs2 hfs2 HR2 HV2 HG2 ⊢
  go_wp2
  · go_ret2
    refine ⟨⟨b, a, rfl, Or.inr ⟨rfl, rfl⟩⟩, ?_, ⟨_, HV2.out.set_ 0 _⟩, only_setCell HG2.out _ _⟩
    exact ⟨HR2.out.1, (Below.heap_setCell _ _ _ _ (Ne.symm hne)).trans HR2.out.2⟩
  · go_ret2
    exact ⟨⟨a, b, rfl, Or.inl ⟨rfl, rfl⟩⟩, HR2.out, ⟨v, HV2.out⟩, HG2.out⟩

set_option maxHeartbeats 2000000 in
set_option maxRecDepth 100000 in
theorem median_any (P R : List Value) (g off cap a b c sp : Nat) (d : Array Int) (w : World) (hH : Row P R w g off d) (ha : a < d.size) (hb : b < d.size) (hc' : c < d.size) (hsz : d.size < 1099511627776) (hne : sp ≠ g) (hc : Cnt w sp) :
    Calls Try.prog 72 #[.slice (some ⟨g, off, none⟩) d.size cap, .int .i64 a, .int .i64 b, .int .i64 c, .pointer (some ⟨sp, 0, none⟩)] w fun e w' =>
      (∃ x : Nat, e = .returned (.int .i64 x) ∧ (x = a ∨ x = b ∨ x = c)) ∧ Row P R w' g off d ∧ Cnt w' sp ∧ w.grownBy w' (some sp) := by
  have HR := Lib.hid hH
  have HC := Lib.hid hc
  clear hH hc
  go_enter Try.func72, Try.ntmps72
  go_wp2_with fail
  refine (order2_any P R g off cap a b sp d w HR.out ha hb hsz hne HC.out).mono ?_; rintro e w1 ⟨⟨a1, b1, rfl, h1⟩, r1, c1, g1⟩
  have HR1 := Lib.hid r1
  have HC1 := Lib.hid c1
  have HG1 := Lib.hid g1
  have H1 := Lib.hid h1
  clear r1 c1 g1 HR HC h1
  go_wp2_with fail
  refine (order2_any P R g off cap b1 c sp d w1 HR1.out (by have := H1.out; omega) hc' hsz hne HC1.out).mono ?_; rintro e w2 ⟨⟨b2, c2, rfl, h2⟩, r2, cc2, g2⟩
  have HR2 := Lib.hid r2
  have HC2 := Lib.hid cc2
  have HG2 := Lib.hid (only_trans HG1.out g2)
  have H2 := Lib.hid h2
  clear r2 cc2 g2 HR1 HC1 HG1 h2
  go_wp2_with fail
  refine (order2_any P R g off cap a1 b2 sp d w2 HR2.out (by have := H1.out; omega) (by have := H1.out; have := H2.out; omega) hsz hne HC2.out).mono ?_; rintro e w3 ⟨⟨a3, b3, rfl, h3⟩, r3, cc3, g3⟩
  go_wp2
  go_ret
  exact ⟨⟨b3, rfl, by have := H1.out; have := H2.out; omega⟩, r3, cc3, only_trans HG2.out g3⟩

set_option maxHeartbeats 2000000 in
set_option maxRecDepth 100000 in
theorem medAdj_any (P R : List Value) (g off cap a sp : Nat) (d : Array Int) (w : World) (hH : Row P R w g off d) (ha : 1 ≤ a) (hb : a + 1 < d.size) (hsz : d.size < 1099511627776) (hne : sp ≠ g) (hc : Cnt w sp) :
    Calls Try.prog 71 #[.slice (some ⟨g, off, none⟩) d.size cap, .int .i64 a, .pointer (some ⟨sp, 0, none⟩)] w fun e w' =>
      (∃ x : Nat, e = .returned (.int .i64 x) ∧ a ≤ x + 1 ∧ x ≤ a + 1) ∧ Row P R w' g off d ∧ Cnt w' sp ∧ w.grownBy w' (some sp) := by
  have HM := Lib.hid (median_any P R g off cap (a - 1) a (a + 1) sp d w hH (by omega) (by omega) hb hsz hne hc)
  rw [show ((a - 1 : Nat) : Int) = (a : Int) - 1 by omega, show ((a + 1 : Nat) : Int) = (a : Int) + 1 by omega] at HM
  clear hH hc
  go_enter Try.func71, Try.ntmps71
  go_wp2_with fail
  refine HM.out.mono ?_; rintro e w1 ⟨⟨x, rfl, hx⟩, r1, c1, g1⟩
  go_wp2
  go_ret
  exact ⟨⟨x, rfl, by omega, by omega⟩, r1, c1, g1⟩

set_option maxHeartbeats 2000000 in
set_option maxRecDepth 100000 in
theorem pivot_any (P R : List Value) (g off cap a b : Nat) (d : Array Int) (w : World) (hH : Row P R w g off d) (hab : a + 12 < b) (hb : b ≤ d.size) (hsz : d.size < 1099511627776) :
    Calls Try.prog 58 #[.slice (some ⟨g, off, none⟩) d.size cap, .int .i64 a, .int .i64 b] w fun e w' =>
      (∃ (x : Nat) (h : Int), e = .returned (.tuple #[.int .i64 x, .int .i64 h]) ∧ a < x ∧ x + 1 < b) ∧ Below w.heap.size w w' := by
  obtain ⟨l, hl⟩ : ∃ l, l = b - a := ⟨_, rfl⟩
  obtain ⟨q, hq⟩ : ∃ q, q = l / 4 := ⟨_, rfl⟩
  have e1 : (b : Int) - (a : Int) = (l : Int) := by omega
  have e2 : (l : Int) / 4 = (q : Int) := by omega
  have e3 : (l : Int).tdiv 4 = (q : Int) := by rw [Int.tdiv_eq_ediv_of_nonneg (by omega)]; exact e2
  obtain ⟨i, hi⟩ : ∃ i, i = a + q := ⟨_, rfl⟩
  obtain ⟨j, hj⟩ : ∃ j, j = a + q * 2 := ⟨_, rfl⟩
  obtain ⟨k, hk⟩ : ∃ k, k = a + q * 3 := ⟨_, rfl⟩
  have e4 : (a : Int) + (q : Int) = (i : Int) := by omega
  have e5 : (a : Int) + (q : Int) * 2 = (j : Int) := by omega
  have e6 : (a : Int) + (q : Int) * 3 = (k : Int) := by omega
  have HA : Hid (l = b - a ∧ q = l / 4 ∧ i = a + q ∧ j = a + q * 2 ∧ k = a + q * 3) := Lib.hid ⟨hl, hq, hi, hj, hk⟩
  have l8 : (8 : Int) ≤ (l : Int) := by omega
  have HR := Lib.hid (hH.below ((Below.refl _ w).alloc (Nat.le_refl _) (.cells #[.int .i64 0] 3)) hH.lt)
  have HC : Hid (Cnt (w.alloc (.cells #[.int .i64 0] 3)) w.heap.size) := Lib.hid ⟨0, Blk.new w 3 [.int .i64 0]⟩
  have HB : Hid (Below w.heap.size w (w.alloc (.cells #[.int .i64 0] 3))) := Lib.hid ((Below.refl _ w).alloc (Nat.le_refl _) _)
  have hne : w.heap.size ≠ g := by have := hH.lt; omega
  clear hl hq hi hj hk hH
  obtain ⟨sp, hsp⟩ : ∃ sp, sp = w.heap.size := ⟨_, rfl⟩
  have HSP := Lib.hid hsp
  go_enter Try.func58, Try.ntmps58
  by_cases l50 : (50 : Int) ≤ (l : Int)
  · go_wp2_with fail
    refine (medAdj_any P R g off cap i w.heap.size d _ HR.out (by have := HA.out; omega) (by have := HA.out; omega) hsz hne HC.out).mono ?_; rintro e w1 ⟨⟨x1, rfl, hx1⟩, r1, c1, g1⟩
    have HR1 := Lib.hid r1
    have HC1 := Lib.hid c1
    have HB1 : Hid (Below w.heap.size w w1) := Lib.hid (HB.out.grown g1 HB.out.size (fun k hk => by cases hk; exact Nat.le_refl _))
    have HX1 := Lib.hid hx1
    clear r1 c1 g1 hx1
    go_wp2_with fail
    refine (medAdj_any P R g off cap j w.heap.size d _ HR1.out (by have := HA.out; omega) (by have := HA.out; omega) hsz hne HC1.out).mono ?_; rintro e w2 ⟨⟨x2, rfl, hx2⟩, r2, c2, g2⟩
    have HR2 := Lib.hid r2
    have HC2 := Lib.hid c2
    have HB2 : Hid (Below w.heap.size w w2) := Lib.hid (HB1.out.grown g2 HB1.out.size (fun k hk => by cases hk; exact Nat.le_refl _))
    have HX2 := Lib.hid hx2
    clear r2 c2 g2 hx2
    go_wp2_with fail
    refine (medAdj_any P R g off cap k w.heap.size d _ HR2.out (by have := HA.out; omega) (by have := HA.out; omega) hsz hne HC2.out).mono ?_; rintro e w3 ⟨⟨x3, rfl, hx3⟩, r3, c3, g3⟩
    have HR3 := Lib.hid r3
    have HC3 := Lib.hid c3
    have HB3 : Hid (Below w.heap.size w w3) := Lib.hid (HB2.out.grown g3 HB2.out.size (fun k hk => by cases hk; exact Nat.le_refl _))
    have HX3 := Lib.hid hx3
    clear r3 c3 g3 hx3
    go_wp2_with fail
    refine (median_any P R g off cap x1 x2 x3 w.heap.size d _ HR3.out (by have := HA.out; have := HX1.out; omega) (by have := HA.out; have := HX2.out; omega) (by have := HA.out; have := HX3.out; omega) hsz hne HC3.out).mono ?_; rintro e w4 ⟨⟨x4, rfl, hx4⟩, r4, c4, g4⟩
    obtain ⟨v, hv⟩ := c4
    have hcs : w4.cell? ⟨w.heap.size, 0, none⟩ = some (.int .i64 v) := hv.cell 0
    have HBF : Hid (Below w.heap.size w w4) := Lib.hid (HB3.out.grown g4 HB3.out.size (fun k hk => by cases hk; exact Nat.le_refl _))
    have HX : Hid (a < x4 ∧ x4 + 1 < b) := Lib.hid (by have := HA.out; have := HX1.out; have := HX2.out; have := HX3.out; omega)
    clear hv r4 g4
    by_cases v0 : (v == 0) = true
    · go_wp2
      go_ret2
      exact ⟨⟨x4, _, rfl, HX.out.1, HX.out.2⟩, HBF.out⟩
    · have v0' : (v == 0) = false := by simpa using v0
      clear v0
      by_cases v1 : (v == 12) = true
      · go_wp2
        go_ret2
        exact ⟨⟨x4, _, rfl, HX.out.1, HX.out.2⟩, HBF.out⟩
      · have v1' : (v == 12) = false := by simpa using v1
        clear v1
        go_wp2
        go_ret2
        exact ⟨⟨x4, _, rfl, HX.out.1, HX.out.2⟩, HBF.out⟩
  · go_wp2_with fail
    refine (median_any P R g off cap i j k w.heap.size d _ HR.out (by have := HA.out; omega) (by have := HA.out; omega) (by have := HA.out; omega) hsz hne HC.out).mono ?_; rintro e w4 ⟨⟨x4, rfl, hx4⟩, r4, c4, g4⟩
    obtain ⟨v, hv⟩ := c4
    have hcs : w4.cell? ⟨w.heap.size, 0, none⟩ = some (.int .i64 v) := hv.cell 0
    have HBF : Hid (Below w.heap.size w w4) := Lib.hid (HB.out.grown g4 HB.out.size (fun k hk => by cases hk; exact Nat.le_refl _))
    have HX : Hid (a < x4 ∧ x4 + 1 < b) := Lib.hid (by have := HA.out; omega)
    clear hv r4 g4
    by_cases v0 : (v == 0) = true
    · go_wp2
      go_ret2
      exact ⟨⟨x4, _, rfl, HX.out.1, HX.out.2⟩, HBF.out⟩
    · have v0' : (v == 0) = false := by simpa using v0
      clear v0
      by_cases v1 : (v == 12) = true
      · go_wp2
        go_ret2
        exact ⟨⟨x4, _, rfl, HX.out.1, HX.out.2⟩, HBF.out⟩
      · have v1' : (v == 12) = false := by simpa using v1
        clear v1
        go_wp2
        go_ret2
        exact ⟨⟨x4, _, rfl, HX.out.1, HX.out.2⟩, HBF.out⟩
end Go.Proofs.Ytfickpjecehboaa
