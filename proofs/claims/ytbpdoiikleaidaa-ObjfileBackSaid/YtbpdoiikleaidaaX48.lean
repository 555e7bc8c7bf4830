/- ObjfileCodes, walked. -/
import Derived.Test.YtbpdoiikleaidaaX39
import Derived.Test.YtbpdoiikleaidaaX41
import Derived.Test.YtbpdoiikleaidaaX44
import Derived.Test.YtbpdoiikleaidaaX45
import Derived.Test.YtbpdoiikleaidaaX47
set_option linter.unusedVariables false
set_option linter.unusedSimpArgs false
namespace Go.Proofs.Ytbpdoiikleaidaa
open Go Go.RowKit Oj Pk Of

theorem ob_zero (w : World) : ObAt w (.agg #[.string ⟨#[]⟩, .slice none 0 0]) Ob.nought :=
  ⟨_, rfl, fun _ => undef, fun _ => undef, ⟨none, 0, rfl, fun h => absurd h (by decide)⟩, fun j hj => absurd hj (Nat.not_lt_zero j)⟩
theorem ob_zero_fits : obFits Ob.nought := ⟨by decide, by decide, fun j hj => absurd hj (Nat.not_lt_zero j)⟩
theorem inO_fits {o : Ob} (h : inO o) : obFits o := by
  obtain ⟨h1, h2, h3⟩ := h
  refine ⟨by omega, by omega, fun j hj => ?_⟩
  obtain ⟨a1, a2, a3, a4, a5, a6, a7, a8, a9⟩ := h3 _ (getD_mem (d := Sy.nought) hj)
  refine ⟨by omega, a2, a3, a4, by omega, by omega, by omega, fun k hk => ?_, fun k hk => ?_⟩
  · obtain ⟨b1, b2, b3, b4⟩ := a7 _ (getD_mem (d := Rl.nought) hk)
    exact ⟨b1, b2, b4, by omega⟩
  · exact a9 _ (getD_mem (d := Nt.nought) hk)
/-- What an answer of Get's is, as an object: none is the empty one. -/
def theOb (G : Option Ob) : Ob := G.getD Ob.nought
def theE (G : Option Ob) : Int := match G with | some _ => 0 | none => 7
theorem GetPost.two {B : Nat} {G : Option Ob} {c : Int} {v : Value} {w : World} (h : GetPost B G c v w) : c = theE G ∧ ObAt w v (theOb G) := by
  cases G with
  | none => obtain ⟨h1, h2⟩ := h; subst h2; exact ⟨h1, ob_zero w⟩
  | some o => obtain ⟨h1, h2⟩ := h; exact ⟨h1, h2.ob⟩
theorem theOb_fits {s : List UInt8} : obFits (theOb (getO s)) := by
  cases h : getO s with
  | none => exact ob_zero_fits
  | some o => exact inO_fits (getO_some h).2.2
/-- What stands in the law: the object that came in, the copy, and Below. -/
structure Oc (w0 w : World) (x : Ob) (M : ByteArray) (n : Nat) (a : Option Addr) (c : Nat) (a2 : Option Addr) (c2 : Nat) (g0 g2 : Nat) : Prop where
  low : Below w0.heap.size w0 w
  box : Blk w g0 24 [.string M, .slice a n c]
  own : Blk w g2 24 [.string M, .slice a2 n c2]
  syms : SymsAt w (.slice a2 n c2) x.syms
theorem Oc.below {w0 w w' : World} {x : Ob} {M : ByteArray} {n : Nat} {a : Option Addr} {c : Nat} {a2 : Option Addr} {c2 : Nat} {g0 g2 : Nat} (h : Oc w0 w x M n a c a2 c2 g0 g2) (hb : Below w.heap.size w w') : Oc w0 w' x M n a c a2 c2 g0 g2 :=
  ⟨below_call h.low hb, h.box.call hb, h.own.call hb, h.syms.below hb⟩
theorem ob_cells {w : World} {v : Value} {o : Ob} (h : ObAt w v o) : ∃ nm a k c, v = .agg #[.string nm, .slice a k c] := by
  obtain ⟨vs, rfl, hS⟩ := h
  obtain ⟨a, c, rfl, _⟩ := hS.get
  exact ⟨_, _, _, _, rfl⟩
set_option maxHeartbeats 16000000 in
set_option maxRecDepth 100000 in
theorem codes_any (v : Value) (x : Ob) (hf : obFits x) (s : ByteArray) (hs : s.size ≤ 140737488355328) (w : World) (hA : ObAt w v x) :
    Calls Try.prog 3 #[v, .string s] w fun e w' => e = .returned (.bool true) ∧ Below w.heap.size w w' := by
  obtain ⟨vs, rfl, hS⟩ := hA
  have HAl := Lib.hid (fun W => falive_any W)
  obtain ⟨n, hn⟩ : ∃ n, n = x.syms.length := ⟨_, rfl⟩
  obtain ⟨a, c, hvs, hsy⟩ := hS.get
  rw [← hn] at hvs hsy
  subst hvs
  obtain ⟨M, hM⟩ : ∃ M, M = tx x.name := ⟨_, rfl⟩
  have hO : ∀ W, Below w.heap.size w W → ObAt W (.agg #[.string M, .slice a n c]) x := fun W hq => by rw [hM]; exact ObAt.mk (hS.below hq)
  have HLa := Lib.hid (fun W (hq : Below w.heap.size w W) => by have := large_any _ _ (obs_fit hf) _ (obs_one (hS.below hq)); rw [← hM] at this; exact this)
  have HCp := Lib.hid (fun W (hq : Below w.heap.size w W) => rcopy_any _ x hf W (hO W hq))
  have HMay := Lib.hid (fun W (hq : Below w.heap.size w W) => rmay_any _ x hf W (hO W hq))
  have HSm := Lib.hid (fun v2 W (hq : Below w.heap.size w W) (h2 : ObAt W v2 x) => robsame_any x hf _ _ W h2 (hO W hq))
  have HFP := Lib.hid (fun v2 W (h2 : ObAt W v2 x) => fput_any v2 x hf W h2)
  have HM := Lib.hid hM
  have HN := Lib.hid hn
  have hsi : (s.size : Int) ≤ 140737488355328 := by omega
  obtain ⟨p, hp⟩ : ∃ p, p = obOk x := ⟨_, rfl⟩
  obtain ⟨Z, hZ⟩ : ∃ Z, Z = putS' x := ⟨_, rfl⟩
  have HDP : Hid (p = true → ∀ W, Below w.heap.size w W → Calls Try.prog 12 #[.agg #[.string M, .slice a n c]] W fun e w' => e = .returned (.string Z) ∧ Below W.heap.size W w') := Lib.hid (fun h W hq => by
    have h2 : obOk x = true := by rw [← hp]; exact h
    have e : Z = tx (encO x) := by rw [hZ]; unfold putS'; rw [if_pos h2]
    rw [e]
    exact dput_any _ x hf (inO_of hf h2) (encO_len h2) W (hO W hq))
  have HZE : Hid (p = false → Z = ⟨#[]⟩) := Lib.hid (fun h => by rw [hZ]; unfold putS'; rw [if_neg (by rw [← hp, h]; decide)])
  rw [← hp] at HMay HFP
  rw [← hZ] at HFP
  have HBy : Hid (s.size ≤ 32768 → ∀ W, Calls Try.prog 13 #[.string s] W fun e w' => ∃ v : Value, ∃ c : Int, e = .returned (.tuple #[v, .int .i64 c]) ∧ Below W.heap.size W w' ∧ GetPost W.heap.size (getO (by' s)) c v w') := Lib.hid (fun h W => by
    have := fget_any (by' s) W (by rw [by_length]; omega)
    rw [tx_by] at this
    exact this)
  have HDG : Hid (s.size ≤ 32768 → ∀ W, Calls Try.prog 14 #[.string s] W fun e w' => ∃ v : Value, ∃ c : Int, e = .returned (.tuple #[v, .int .i64 c]) ∧ Below W.heap.size W w' ∧ GetPost W.heap.size (getO (by' s)) c v w') := Lib.hid (fun h W => by
    have := dget_any (by' s) W (by rw [by_length]; omega)
    rw [tx_by] at this
    exact this)
  have HGS := Lib.hid (fun v1 v2 W (h1 : ObAt W v1 (theOb (getO (by' s)))) (h2 : ObAt W v2 (theOb (getO (by' s)))) => robsame_any _ theOb_fits v1 v2 W h1 h2)
  obtain ⟨G, hG⟩ : ∃ G, G = getO (by' s) := ⟨_, rfl⟩
  rw [← hG] at HBy HDG HGS
  have HB0 := Lib.hid (below_new1 w (.cells #[.string M, .slice a n c] 24))
  have HX0 := Lib.hid (Blk.new w 24 [.string M, .slice a n c])
  rw [← hM]
  clear hM hO hsy hf hS hp hn hZ hG hs
  go_enter Try.func3, Try.ntmps3
  go_upto_region 1 with (fail)
  obtain ⟨wb, hwb⟩ : ∃ wb, wb = w.alloc (.cells #[.string M, .slice a n c] 24) := ⟨_, rfl⟩
  rw [← hwb] at HB0 HX0 ⊢
  clear hwb
  have b0 : wb.cell? ⟨w.heap.size, 0, none⟩ = some (.string M) := HX0.out.cell 0
  have b1 : wb.cell? ⟨w.heap.size, 1, none⟩ = some (.slice a n c) := HX0.out.cell 1
  go_wp2_with fail
  refine (HLa.out _ HB0.out).mono ?_; rintro e w1 ⟨b, rfl, _, q1⟩
  have Q1 := Lib.hid (below_call (below_box HB0.out _) q1)
  have X1 := Lib.hid ((HX0.out.alloc _).call q1)
  clear q1 HB0 HX0 HLa b0 b1
  have hcase : b = true ∨ (b = false ∧ (32768 : Int) < (s.size : Int)) ∨ (b = false ∧ (s.size : Int) ≤ 32768) := by
    cases b
    · rcases Int.lt_or_le 32768 (s.size : Int) with h | h
      · exact .inr (.inl ⟨rfl, h⟩)
      · exact .inr (.inr ⟨rfl, h⟩)
    · exact .inl rfl
  rcases hcase with rfl | ⟨rfl, hg⟩ | ⟨rfl, hg⟩
  · go_wp2_with fail
    refine (HAl.out _).mono ?_; rintro e w2 ⟨rfl, q2⟩
    have Q2 := Lib.hid (below_call Q1.out q2)
    clear q2
    go_wp2_with fail
    go_ret
    exact ⟨rfl, Q2.out⟩
  · go_wp2_with fail
    refine (HAl.out _).mono ?_; rintro e w2 ⟨rfl, q2⟩
    have Q2 := Lib.hid (below_call Q1.out q2)
    clear q2
    go_wp2_with fail
    go_ret
    exact ⟨rfl, Q2.out⟩
  have b0 : w1.cell? ⟨w.heap.size, 0, none⟩ = some (.string M) := X1.out.cell 0
  have b1 : w1.cell? ⟨w.heap.size, 1, none⟩ = some (.slice a n c) := X1.out.cell 1
  go_wp2_with fail
  refine (HCp.out _ Q1.out).mono ?_; rintro e w2 ⟨v2, rfl, ⟨vs2, rfl, hS2⟩, q2⟩
  obtain ⟨a2, c2, hv2⟩ : ∃ a2 c2, vs2 = .slice a2 n c2 := by obtain ⟨a2, c2, h, _⟩ := hS2.get; exact ⟨a2, c2, by rw [h, HN.out]⟩
  subst hv2
  rw [← HM.out]
  obtain ⟨g2, hg2⟩ : ∃ g2, g2 = w2.heap.size := ⟨_, rfl⟩
  have O3 : Hid (Oc w (w2.alloc (.cells #[.string M, .slice a2 n c2] 24)) x M n a c a2 c2 w.heap.size g2) := Lib.hid ⟨below_box (below_call Q1.out q2) _, (X1.out.call q2).alloc _, by rw [hg2]; exact Blk.new w2 _ _, hS2.below (below_new1 _ _)⟩
  clear q2 hS2 b0 b1 Q1 X1 HCp
  go_upto_region 4 with (fail)
  rw [← hg2]
  obtain ⟨w3, hw3⟩ : ∃ w3, w3 = w2.alloc (.cells #[.string M, .slice a2 n c2] 24) := ⟨_, rfl⟩
  rw [← hw3] at O3 ⊢
  clear hw3 hg2
  have HOw : Hid (∀ W, SymsAt W (.slice a2 n c2) x.syms → ObAt W (.agg #[.string M, .slice a2 n c2]) x) := Lib.hid (fun W h => by rw [HM.out]; exact ObAt.mk h)
  have o0 : w3.cell? ⟨g2, 0, none⟩ = some (.string M) := O3.out.own.cell 0
  have o1 : w3.cell? ⟨g2, 1, none⟩ = some (.slice a2 n c2) := O3.out.own.cell 1
  obtain ⟨ep, hep⟩ : ∃ ep, ep = okI p := ⟨_, rfl⟩
  rw [← hep] at HFP
  go_wp2_with fail
  refine (HFP.out _ _ (HOw.out _ O3.out.syms)).mono ?_; rintro e w4 ⟨rfl, q4⟩
  have O4 := Lib.hid (O3.out.below q4)
  clear q4 O3 o0 o1 HFP
  have o0 : w4.cell? ⟨g2, 0, none⟩ = some (.string M) := O4.out.own.cell 0
  have o1 : w4.cell? ⟨g2, 1, none⟩ = some (.slice a2 n c2) := O4.out.own.cell 1
  have b0 : w4.cell? ⟨w.heap.size, 0, none⟩ = some (.string M) := O4.out.box.cell 0
  have b1 : w4.cell? ⟨w.heap.size, 1, none⟩ = some (.slice a n c) := O4.out.box.cell 1
  go_wp2_with fail
  refine (HSm.out _ _ O4.out.low (HOw.out _ O4.out.syms)).mono ?_; rintro e w5 ⟨rfl, q5⟩
  have O5 := Lib.hid (O4.out.below q5)
  clear q5 O4 o0 o1 b0 b1
  have b0 : w5.cell? ⟨w.heap.size, 0, none⟩ = some (.string M) := O5.out.box.cell 0
  have b1 : w5.cell? ⟨w.heap.size, 1, none⟩ = some (.slice a n c) := O5.out.box.cell 1
  go_wp2_with fail
  refine (HMay.out _ O5.out.low).mono ?_; rintro e w6 ⟨rfl, q6⟩
  have O6 := Lib.hid (O5.out.below q6)
  clear q6 O5 b0 b1
  have b0 : w6.cell? ⟨w.heap.size, 0, none⟩ = some (.string M) := O6.out.box.cell 0
  have b1 : w6.cell? ⟨w.heap.size, 1, none⟩ = some (.slice a n c) := O6.out.box.cell 1
  have HGet := Lib.hid (HBy.out (by omega))
  have HDGet := Lib.hid (HDG.out (by omega))
  clear HBy HDG
  cases p
  case' true =>
    have hep2 : ep = 0 := hep
    subst hep2
    have HD := Lib.hid (HDP.out rfl _ O6.out.low)
    clear HDP HZE hep
    go_wp2_with fail
    refine HD.out.mono ?_; rintro e w7 ⟨rfl, q7⟩
    have O7 := Lib.hid (O6.out.below q7)
    clear q7 O6 b0 b1 HD
    have b0 : w7.cell? ⟨w.heap.size, 0, none⟩ = some (.string M) := O7.out.box.cell 0
    have b1 : w7.cell? ⟨w.heap.size, 1, none⟩ = some (.slice a n c) := O7.out.box.cell 1
  case' false =>
    have hep2 : ep = 2 := hep
    have hz : Z = ⟨#[]⟩ := HZE.out rfl
    subst hep2 hz
    clear HDP HZE hep
    obtain ⟨w7, hw7⟩ : ∃ w7, w7 = w6 := ⟨_, rfl⟩
    subst hw7
    have O7 := O6
    clear O6
  all_goals (
    go_wp2_with fail
    refine (HMay.out _ O7.out.low).mono ?_; rintro e w8 ⟨rfl, q8⟩
    have O8 := Lib.hid (O7.out.below q8)
    clear q8 O7 b0 b1 HMay
    go_wp2_with fail
    refine (HGet.out _).mono ?_; rintro e w9 ⟨v9, e9, rfl, q9, h9⟩
    obtain ⟨he9, hv9⟩ := h9.two
    obtain ⟨nm9, a9, k9, c9, rfl⟩ := ob_cells hv9
    have O9 := Lib.hid ((O8.out.below q9).below (below_new1 w9 (.cells #[.string nm9, .slice a9 k9 c9] 24)))
    have X9 := Lib.hid (Blk.new w9 24 [.string nm9, .slice a9 k9 c9])
    have V9 := Lib.hid (hv9.below (below_new1 w9 (.cells #[.string nm9, .slice a9 k9 c9] 24)))
    have E9 := Lib.hid he9
    clear q9 h9 he9 hv9 O8 HGet
    go_upto_region 10 with (fail)
    obtain ⟨g9, hg9⟩ : ∃ t, t = w9.heap.size := ⟨_, rfl⟩
    obtain ⟨w10, hw10⟩ : ∃ t, t = w9.alloc (.cells #[.string nm9, .slice a9 k9 c9] 24) := ⟨_, rfl⟩
    rw [← hw10] at O9 X9 V9 ⊢
    rw [← hg9] at X9 ⊢
    clear hw10 hg9
    go_wp2_with fail
    refine (HDGet.out _).mono ?_; rintro e w11 ⟨v11, e11, rfl, q11, h11⟩
    obtain ⟨he11, hv11⟩ := h11.two
    obtain ⟨nm11, a11, k11, c11, rfl⟩ := ob_cells hv11
    have O11 := Lib.hid ((O9.out.below q11).below (below_new1 w11 (.cells #[.string nm11, .slice a11 k11 c11] 24)))
    have X11 := Lib.hid ((X9.out.call q11).alloc (.cells #[.string nm11, .slice a11 k11 c11] 24))
    have Y11 := Lib.hid (Blk.new w11 24 [.string nm11, .slice a11 k11 c11])
    have V11 := Lib.hid ((V9.out.below q11).below (below_new1 w11 (.cells #[.string nm11, .slice a11 k11 c11] 24)))
    have U11 := Lib.hid (hv11.below (below_new1 w11 (.cells #[.string nm11, .slice a11 k11 c11] 24)))
    have E11 : e9 = e11 := by rw [E9.out, he11]
    subst E11
    clear q11 h11 he11 hv11 O9 X9 V9 E9 HDGet
    go_upto_region 11 with (fail)
    obtain ⟨g11, hg11⟩ : ∃ t, t = w11.heap.size := ⟨_, rfl⟩
    obtain ⟨w12, hw12⟩ : ∃ t, t = w11.alloc (.cells #[.string nm11, .slice a11 k11 c11] 24) := ⟨_, rfl⟩
    rw [← hw12] at O11 X11 Y11 V11 U11 ⊢
    rw [← hg11] at Y11 ⊢
    clear hw12 hg11
    have x0 : w12.cell? ⟨g9, 0, none⟩ = some (.string nm9) := X11.out.cell 0
    have x1 : w12.cell? ⟨g9, 1, none⟩ = some (.slice a9 k9 c9) := X11.out.cell 1
    have y0 : w12.cell? ⟨g11, 0, none⟩ = some (.string nm11) := Y11.out.cell 0
    have y1 : w12.cell? ⟨g11, 1, none⟩ = some (.slice a11 k11 c11) := Y11.out.cell 1
    go_wp2_with fail
    refine (HGS.out _ _ _ V11.out U11.out).mono ?_; rintro e w13 ⟨rfl, q13⟩
    have O13 := Lib.hid (O11.out.below q13)
    clear q13 O11 X11 Y11 V11 U11 x0 x1 y0 y1 HGS
    go_wp2_with fail
    refine (HAl.out _).mono ?_; rintro e w14 ⟨rfl, q14⟩
    have O14 := Lib.hid (O13.out.below q14)
    clear q14 O13
    go_wp2_with fail
    go_ret
    exact ⟨rfl, O14.out.low⟩)
end Go.Proofs.Ytbpdoiikleaidaa
