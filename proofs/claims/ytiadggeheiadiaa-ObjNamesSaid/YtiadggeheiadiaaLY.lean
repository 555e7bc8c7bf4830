/- ObjMay, walked. -/
import Derived.Test.YtiadggeheiadiaaLW
import Derived.Test.YtiadggeheiadiaaLG
import Derived.Test.YtiadggeheiadiaaRD
import Derived.Test.YtiadggeheiadiaaRE
import Derived.Test.YtiadggeheiadiaaQV
set_option linter.unusedVariables false
set_option linter.unusedSimpArgs false
namespace Go.Proofs.Ytiadggeheiadiaa
open Go Go.RowKit Oj

/-- One object as a list of one. -/
theorem obs_one {w : World} {x : Ob} {vs : Value} (h : SymsAt w vs x.syms) : ObsAt (w.alloc (.cells #[.string (tx x.name), vs] 24)) (.slice (some ⟨w.heap.size, 0, none⟩) 1 1) [x] := by
  have hb := below_new1 w (.cells #[.string (tx x.name), vs] 24)
  have hB := Blk.new w 24 [.string (tx x.name), vs]
  refine ⟨fun _ => vs, ⟨_, _, rfl, fun _ => ⟨w.heap.size, 0, rfl, hB.lt, fun j hj i u hu => ?_⟩⟩, fun j hj => ?_⟩
  · obtain rfl : j = 0 := by simp at hj; exact hj
    rw [show (0 + 0 * 2 + i) = i by omega, hB.cell i]
    exact hu
  · obtain rfl : j = 0 := by simp at hj; exact hj
    exact h.below hb
theorem obs_fit {x : Ob} (h : obFits x) : obsFit [x] := ⟨show 1 * 40 ≤ _ by decide, fun j hj => by
  obtain rfl : j = 0 := by simp at hj; exact hj
  exact h⟩

/-- What stands while ObjMay goes on. -/
theorem SymsAt.cellsOf {w : World} {a : Option Addr} {n c : Nat} {l : List Sy} (h : SymsAt w (.slice a n c) l) {k : Nat} (hk : k < l.length) :
    ∃ b o ra rc na nc, a = some ⟨b, o, none⟩ ∧ b < w.heap.size ∧ LieC w b (o + k * 7) (syCells (l.getD k Sy.nought) (.slice ra (l.getD k Sy.nought).rels.length rc) (.slice na (l.getD k Sy.nought).notes.length nc)) ∧ RelsAt w (.slice ra (l.getD k Sy.nought).rels.length rc) (l.getD k Sy.nought).rels ∧ NotesAt w (.slice na (l.getD k Sy.nought).notes.length nc) (l.getD k Sy.nought).notes := by
  obtain ⟨a', c', b, o, vr, vn, h1, h2, h3, h4, h5, h6⟩ := h.sym hk
  injection h1 with e1 e2 e3
  subst e1
  obtain ⟨ra, rc, hr⟩ : ∃ ra rc, vr = .slice ra (l.getD k Sy.nought).rels.length rc := by obtain ⟨x, y, hxy, _⟩ := h5; exact ⟨x, y, hxy⟩
  obtain ⟨na, nc, hn⟩ : ∃ na nc, vn = .slice na (l.getD k Sy.nought).notes.length nc := by obtain ⟨x, y, hxy, _⟩ := h6; exact ⟨x, y, hxy⟩
  subst hr hn
  exact ⟨b, o, ra, rc, na, nc, h2, h3, h4, h5, h6⟩
structure Omay (w0 w : World) (x : Ob) (M : ByteArray) (n : Nat) (a : Option Addr) (c : Nat) (a2 : Option Addr) (c2 : Nat) (k1 n1 m1 : Int) (g0 g1 g2 : Nat) : Prop where
  low : Below w0.heap.size w0 w
  box : Blk w g0 24 [.string M, .slice a n c]
  note : Blk w g1 27 [.int .u8 k1, .int .u32 n1, .int .u32 m1]
  own : Blk w g2 24 [.string M, .slice a2 n c2]
  syms : SymsAt w (.slice a2 n c2) x.syms
theorem Omay.below {w0 w w' : World} {x : Ob} {M : ByteArray} {n : Nat} {a : Option Addr} {c : Nat} {a2 : Option Addr} {c2 : Nat} {k1 n1 m1 : Int} {g0 g1 g2 : Nat} (h : Omay w0 w x M n a c a2 c2 k1 n1 m1 g0 g1 g2) (hb : Below w.heap.size w w') : Omay w0 w' x M n a c a2 c2 k1 n1 m1 g0 g1 g2 :=
  ⟨below_call h.low hb, h.box.call hb, h.note.call hb, h.own.call hb, h.syms.below hb⟩

set_option maxHeartbeats 16000000 in
set_option maxRecDepth 100000 in
theorem objmay_any (v : Value) (x : Ob) (hf : obFits x) (nt : Nt) (hfn : ntFits nt) (nm : ByteArray) (hnm : nm.size ≤ 140737488355328) (w : World) (hA : ObAt w v x) :
    Calls Try.prog 3 #[v, ntV nt, .string nm] w fun e w' => e = .returned (.bool true) ∧ Below w.heap.size w w' := by
  obtain ⟨vs, rfl, hS⟩ := hA
  have HAl := Lib.hid (fun W => oalive_any W)
  obtain ⟨n, hn⟩ : ∃ n, n = x.syms.length := ⟨_, rfl⟩
  obtain ⟨a, c, hvs, hsy⟩ := hS.get
  rw [← hn] at hvs hsy
  subst hvs
  obtain ⟨M, hM⟩ : ∃ M, M = tx x.name := ⟨_, rfl⟩
  have hO : ∀ W, Below w.heap.size w W → ObAt W (.agg #[.string M, .slice a n c]) x := fun W hq => by rw [hM]; exact ObAt.mk (hS.below hq)
  have HLa := Lib.hid (fun W (hq : Below w.heap.size w W) => by have := large_any _ _ (obs_fit hf) _ (obs_one (hS.below hq)); rw [← hM] at this; exact this)
  have HCp := Lib.hid (fun W (hq : Below w.heap.size w W) => rcopy_any _ x hf W (hO W hq))
  have HMay := Lib.hid (fun W (hq : Below w.heap.size w W) => rmay_any _ x hf W (hO W hq))
  have HFd := Lib.hid (fun W (hq : Below w.heap.size w W) => rfind_any _ x hf nm W (hO W hq))
  have HSm := Lib.hid (fun v2 W (hq : Below w.heap.size w W) (h2 : ObAt W v2 x) => robsame_any x hf _ _ W h2 (hO W hq))
  have HNt := Lib.hid (fun W => onote_any nt hfn W)
  have HRn := Lib.hid (fun W => rnote_any nt hfn W)
  have HSy := Lib.hid hsy
  have HOs := Lib.hid hS
  have HF := Lib.hid hf
  have HM := Lib.hid hM
  have HN := Lib.hid hn
  have hni : (n : Int) ≤ 1599289640401 := by have := hf.2.1; omega
  have hnmi : (nm.size : Int) ≤ 140737488355328 := by omega
  rw [ntV_eq] at HNt HRn ⊢
  obtain ⟨k1, hk1⟩ : ∃ k1, k1 = nt.kind := ⟨_, rfl⟩
  obtain ⟨n1, hn1⟩ : ∃ n1, n1 = nt.n := ⟨_, rfl⟩
  obtain ⟨m1, hm1⟩ : ∃ m1, m1 = nt.m := ⟨_, rfl⟩
  obtain ⟨q, hq⟩ : ∃ q, q = noteOk nt := ⟨_, rfl⟩
  obtain ⟨p, hp⟩ : ∃ p, p = obOk x := ⟨_, rfl⟩
  rw [← hk1, ← hn1, ← hm1, ← hq] at HNt HRn
  rw [← hk1, ← hn1, ← hm1]
  rw [← hp] at HMay
  have HP := Lib.hid hp
  have HB0 := Lib.hid (below_new2 w (.cells #[.string M, .slice a n c] 24) (.cells #[.int .u8 k1, .int .u32 n1, .int .u32 m1] 27))
  have HX0 := Lib.hid ((Blk.new w 24 [.string M, .slice a n c]).alloc (.cells #[.int .u8 k1, .int .u32 n1, .int .u32 m1] 27))
  have HY0 := Lib.hid (Blk.new2 w (.cells #[.string M, .slice a n c] 24) 27 [.int .u8 k1, .int .u32 n1, .int .u32 m1])
  rw [← hM]
  clear hM hO hsy hf hfn hnm hS hk1 hn1 hm1 hq hp hn
  go_enter Try.func3, Try.ntmps3
  go_upto_region 1 with (fail)
  obtain ⟨wb, hwb⟩ : ∃ wb, wb = (w.alloc (.cells #[.string M, .slice a n c] 24)).alloc (.cells #[.int .u8 k1, .int .u32 n1, .int .u32 m1] 27) := ⟨_, rfl⟩
  rw [← hwb] at HB0 HX0 HY0 ⊢
  clear hwb
  have b0 : wb.cell? ⟨w.heap.size, 0, none⟩ = some (.string M) := HX0.out.cell 0
  have b1 : wb.cell? ⟨w.heap.size, 1, none⟩ = some (.slice a n c) := HX0.out.cell 1
  go_wp2_with fail
  refine (HLa.out _ HB0.out).mono ?_; rintro e w1 ⟨b, rfl, _, q1⟩
  have Q1 := Lib.hid (below_call (below_box HB0.out _) q1)
  have X1 := Lib.hid ((HX0.out.alloc _).call q1)
  have Y1 := Lib.hid ((HY0.out.alloc _).call q1)
  clear q1 HB0 HX0 HY0 HLa b0 b1
  have hcase : b = true ∨ (b = false ∧ (4096 : Int) < (nm.size : Int)) ∨ (b = false ∧ (nm.size : Int) ≤ 4096) := by
    cases b
    · rcases Int.lt_or_le 4096 (nm.size : Int) with h | h
      · exact .inr (.inl ⟨rfl, h⟩)
      · exact .inr (.inr ⟨rfl, h⟩)
    · exact .inl rfl
  rcases hcase with rfl | ⟨rfl, hg⟩ | ⟨rfl, hg⟩
  · go_wp2_with fail
    refine (HAl.out _).mono ?_; rintro e w2 ⟨rfl, q2⟩
    have Q2 := Lib.hid (below_call Q1.out q2)
    clear q2
    go_wp2_with fail
    go_ret
    exact ⟨rfl, Q2.out⟩
  · go_wp2_with fail
    refine (HAl.out _).mono ?_; rintro e w2 ⟨rfl, q2⟩
    have Q2 := Lib.hid (below_call Q1.out q2)
    clear q2
    go_wp2_with fail
    go_ret
    exact ⟨rfl, Q2.out⟩
  have b0 : w1.cell? ⟨w.heap.size, 0, none⟩ = some (.string M) := X1.out.cell 0
  have b1 : w1.cell? ⟨w.heap.size, 1, none⟩ = some (.slice a n c) := X1.out.cell 1
  go_wp2_with fail
  refine (HCp.out _ Q1.out).mono ?_; rintro e w2 ⟨v2, rfl, ⟨vs2, rfl, hS2⟩, q2⟩
  obtain ⟨a2, c2, hv2⟩ : ∃ a2 c2, vs2 = .slice a2 n c2 := by obtain ⟨a2, c2, h, _⟩ := hS2.get; exact ⟨a2, c2, by rw [h, HN.out]⟩
  subst hv2
  rw [← HM.out]
  obtain ⟨g2, hg2⟩ : ∃ g2, g2 = w2.heap.size := ⟨_, rfl⟩
  have O3 : Hid (Omay w (w2.alloc (.cells #[.string M, .slice a2 n c2] 24)) x M n a c a2 c2 k1 n1 m1 w.heap.size (w.heap.size + 1) g2) := Lib.hid ⟨below_box (below_call Q1.out q2) _, (X1.out.call q2).alloc _, (Y1.out.call q2).alloc _, by rw [hg2]; exact Blk.new w2 _ _, hS2.below (below_new1 _ _)⟩
  clear q2 hS2 b0 b1 Q1 X1 Y1 HCp
  go_upto_region 4 with (fail)
  rw [← hg2]
  obtain ⟨w3, hw3⟩ : ∃ w3, w3 = w2.alloc (.cells #[.string M, .slice a2 n c2] 24) := ⟨_, rfl⟩
  rw [← hw3] at O3 ⊢
  clear hw3 hg2
  obtain ⟨ep, hep⟩ : ∃ ep, ep = okI p := ⟨_, rfl⟩
  obtain ⟨eq, heq⟩ : ∃ eq, eq = okI q := ⟨_, rfl⟩
  rw [← heq] at HNt
  have HCk : Hid (∀ W, Below w3.heap.size w3 W → Calls Try.prog 9 #[.agg #[.string M, .slice a2 n c2]] W fun e w' => e = .returned (.int .i64 ep) ∧ Below w3.heap.size w3 w') := Lib.hid (fun W hW => by
    have h := ocheck_any _ x HF.out W (show ObAt W (.agg #[.string M, .slice a2 n c2]) x from by rw [HM.out]; exact ObAt.mk (O3.out.below hW).syms)
    rw [← HP.out, ← hep] at h
    exact h.mono fun e w' ⟨h1, h2⟩ => ⟨h1, below_call hW h2⟩)
  have HNk : Hid (∀ W, Below w3.heap.size w3 W → Calls Try.prog 10 #[.agg #[.int .u8 k1, .int .u32 n1, .int .u32 m1]] W fun e w' => e = .returned (.int .i64 eq) ∧ Below w3.heap.size w3 w') := Lib.hid (fun W hW => (HNt.out W).mono fun e w' ⟨h1, h2⟩ => ⟨h1, below_call hW h2⟩)
  have HCo : Hid (∀ W, Below w3.heap.size w3 W → W.cell? ⟨g2, 0, none⟩ = some (.string M) ∧ W.cell? ⟨g2, 1, none⟩ = some (.slice a2 n c2)) := Lib.hid (fun W hW => ⟨(O3.out.below hW).own.cell 0, (O3.out.below hW).own.cell 1⟩)
  have HCn : Hid (∀ W, Below w3.heap.size w3 W → W.cell? ⟨w.heap.size + 1, 0, none⟩ = some (.int .u8 k1) ∧ W.cell? ⟨w.heap.size + 1, 1, none⟩ = some (.int .u32 n1) ∧ W.cell? ⟨w.heap.size + 1, 2, none⟩ = some (.int .u32 m1)) := Lib.hid (fun W hW => ⟨(O3.out.below hW).note.cell 0, (O3.out.below hW).note.cell 1, (O3.out.below hW).note.cell 2⟩)
  refine qy_region (C := fun W => Below w3.heap.size w3 W) (by kernel_rfl) (by kernel_rfl) (Below.refl _ _).drew ?_
  refine qy_by rfl (.agg #[.string M, .slice a2 n c2]) (fun W hW => by simp [go_sem, (HCo.out W hW).1, (HCo.out W hW).2]) ?_
  simp only [Act.put, List.setIfInBounds_toArray, List.set_cons_zero, List.set_cons_succ]
  refine qy_call rfl 9 #[.agg #[.string M, .slice a2 n c2]] (.int .i64 ep) (fun W _ => by simp [go_sem]) (fun W hW => HCk.out W hW) ?_
  simp only [Act.put, List.setIfInBounds_toArray, List.set_cons_zero, List.set_cons_succ]
  refine qy_by rfl (.agg #[.int .u8 k1, .int .u32 n1, .int .u32 m1]) (fun W hW => by simp [go_sem, (HCn.out W hW).1, (HCn.out W hW).2.1, (HCn.out W hW).2.2]) ?_
  simp only [Act.put, List.setIfInBounds_toArray, List.set_cons_zero, List.set_cons_succ]
  refine qy_call rfl 10 #[.agg #[.int .u8 k1, .int .u32 n1, .int .u32 m1]] (.int .i64 eq) (fun W _ => by simp [go_sem]) (fun W hW => HNk.out W hW) ?_
  simp only [Act.put, List.setIfInBounds_toArray, List.set_cons_zero, List.set_cons_succ]
  refine qy_by rfl (.int .i64 ep) (fun W _ => by simp [go_sem]) ?_
  simp only [Act.put, List.setIfInBounds_toArray, List.set_cons_zero, List.set_cons_succ]
  refine qy_by rfl (.int .i64 eq) (fun W _ => by simp [go_sem]) ?_
  simp only [Act.put, List.setIfInBounds_toArray, List.set_cons_zero, List.set_cons_succ]
  refine wpQuiet_nil ?_
  intro w4 q4
  have O4 := Lib.hid (O3.out.below q4)
  clear q4 HCk HNk HCo HCn O3
  have HRs : Hid (∀ k W, k < n → SymsAt W (.slice a2 n c2) x.syms → ∃ b o ra rc na nc, a2 = some ⟨b, o, none⟩ ∧ b < W.heap.size ∧ LieC W b (o + k * 7) (syCells (x.syms.getD k Sy.nought) (.slice ra (x.syms.getD k Sy.nought).rels.length rc) (.slice na (x.syms.getD k Sy.nought).notes.length nc)) ∧ RelsAt W (.slice ra (x.syms.getD k Sy.nought).rels.length rc) (x.syms.getD k Sy.nought).rels ∧ NotesAt W (.slice na (x.syms.getD k Sy.nought).notes.length nc) (x.syms.getD k Sy.nought).notes) := Lib.hid (fun k W hk h => h.cellsOf (by rw [← HN.out]; exact hk))
  have HSo : Hid (∀ k, k < n → ∃ b o ra rc na nc, a = some ⟨b, o, none⟩ ∧ b < w.heap.size ∧ LieC w b (o + k * 7) (syCells (x.syms.getD k Sy.nought) (.slice ra (x.syms.getD k Sy.nought).rels.length rc) (.slice na (x.syms.getD k Sy.nought).notes.length nc)) ∧ RelsAt w (.slice ra (x.syms.getD k Sy.nought).rels.length rc) (x.syms.getD k Sy.nought).rels ∧ NotesAt w (.slice na (x.syms.getD k Sy.nought).notes.length nc) (x.syms.getD k Sy.nought).notes) := Lib.hid (fun k hk => HOs.out.cellsOf (by rw [← HN.out]; exact hk))
  have HFs := Lib.hid (show ∀ k, k < n → syFits (x.syms.getD k Sy.nought) from fun k hk => HF.out.2.2 k (by rw [← HN.out]; exact hk))
  have HOw : Hid (∀ W, SymsAt W (.slice a2 n c2) x.syms → ObAt W (.agg #[.string M, .slice a2 n c2]) x) := Lib.hid (fun W h => by rw [HM.out]; exact ObAt.mk h)
  have HOf : Hid (∀ W, SymsAt W (.slice a2 n c2) x.syms → Calls Try.prog 15 #[.agg #[.string M, .slice a2 n c2], .string nm] W fun e w' => e = .returned (findV (findO x (by' nm))) ∧ Below W.heap.size W w') := Lib.hid (fun W h => oFind_any _ x HF.out nm W (HOw.out W h))
  obtain ⟨E, hE⟩ : ∃ E, E = findO x (by' nm) := ⟨_, rfl⟩
  rw [← hE] at HOf HFd
  clear hE HNt HP HF
  cases p <;> cases q
  all_goals
    have hep2 := hep
    have heq2 := heq
    unfold okI at hep2 heq2
    simp only [if_true, Bool.false_eq_true, if_false] at hep2 heq2
    clear hep heq
    subst hep2 heq2
    have b0 : w4.cell? ⟨w.heap.size, 0, none⟩ = some (.string M) := O4.out.box.cell 0
    have b1 : w4.cell? ⟨w.heap.size, 1, none⟩ = some (.slice a n c) := O4.out.box.cell 1
    go_wp2_with fail
    refine (HMay.out _ O4.out.low).mono ?_; rintro e w5 ⟨rfl, q5⟩
    have O5 := Lib.hid (O4.out.below q5)
    clear q5 b0 b1 O4
    have n0 : w5.cell? ⟨w.heap.size + 1, 0, none⟩ = some (.int .u8 k1) := O5.out.note.cell 0
    have n1' : w5.cell? ⟨w.heap.size + 1, 1, none⟩ = some (.int .u32 n1) := O5.out.note.cell 1
    have n2 : w5.cell? ⟨w.heap.size + 1, 2, none⟩ = some (.int .u32 m1) := O5.out.note.cell 2
    go_wp2_with fail
    refine (HRn.out _).mono ?_; rintro e w6 ⟨rfl, q6⟩
    have O6 := Lib.hid (O5.out.below q6)
    clear q6 n0 n1' n2 O5
    go_wp2_with fail
    go_loopw [10] (fun i wr => ∃ k : Nat, (k : Int) ≤ n ∧ i = .int .i64 k ∧ Hid (Omay w wr x M n a c a2 c2 k1 n1 m1 w.heap.size (w.heap.size + 1) g2)) (fun i _ => n - (intOf i).toNat)
    case atStart => exact ⟨0, by omega, rfl, O6⟩
    case round =>
      clear O6
      obtain ⟨k, hk, rfl, OO⟩ := hrel
      have b1 : wr.cell? ⟨w.heap.size, 1, none⟩ = some (.slice a n c) := OO.out.box.cell 1
      by_cases hlt : k < n
      · have hd : decide (k < n) = true := decide_eq_true hlt
        have o1 : wr.cell? ⟨g2, 1, none⟩ = some (.slice a2 n c2) := OO.out.own.cell 1
        obtain ⟨b2, o2, ra2, rc2, na2, nc2, rfl, hbl2, hL2, hr2, hn2⟩ := HRs.out k wr hlt OO.out.syms
        obtain ⟨b, o, ra, rc, na, nc, rfl, hbl, hL, hr, hn⟩ := HSo.out k hlt
        obtain ⟨s, hs⟩ : ∃ s, s = x.syms.getD k Sy.nought := ⟨_, rfl⟩
        have hfs := HFs.out k hlt
        rw [← hs] at hL2 hr2 hn2 hL hr hn hfs
        have HSm2 := Lib.hid (osym_any _ s hfs wr (SymAt.mk hr2 hn2))
        have HRm := Lib.hid (fun W (hq : Below w.heap.size w W) => rsym_any _ hfs _ W ((SymAt.mk hr hn).below hq))
        obtain ⟨r, hr'⟩ : ∃ r, r = symOk s := ⟨_, rfl⟩
        obtain ⟨er, her⟩ : ∃ er, er = okI r := ⟨_, rfl⟩
        rw [← hr', ← her] at HSm2
        rw [← hr'] at HRm
        obtain ⟨u0, g0⟩ : ∃ u, u = tx s.name := ⟨_, rfl⟩
        obtain ⟨u1, g1⟩ : ∃ u, u = s.bind := ⟨_, rfl⟩
        obtain ⟨u2, g2'⟩ : ∃ u, u = s.kind := ⟨_, rfl⟩
        obtain ⟨u3, g3⟩ : ∃ u, u = s.size := ⟨_, rfl⟩
        obtain ⟨u4, g4⟩ : ∃ u, u = tx s.bytes := ⟨_, rfl⟩
        obtain ⟨rn, hrn⟩ : ∃ y, y = s.rels.length := ⟨_, rfl⟩
        obtain ⟨nn, hnn⟩ : ∃ y, y = s.notes.length := ⟨_, rfl⟩
        have HLo : Hid (∀ W, Below w.heap.size w W → LieC W b (o + k * 7) [.string u0, .int .u8 u1, .int .u8 u2, .int .u32 u3, .string u4, .slice ra rn rc, .slice na nn nc]) := Lib.hid (fun W hW => by
          have := hL.below hW hbl
          unfold syCells at this
          rw [← g0, ← g1, ← g2', ← g3, ← g4, ← hrn, ← hnn] at this
          exact this)
        obtain ⟨c0, c1, c2', c3, c4, c5, c6⟩ := hL2.sy
        rw [← g0] at c0
        rw [← g1] at c1
        rw [← g2'] at c2'
        rw [← g3] at c3
        rw [← g4] at c4
        rw [← hrn] at c5
        rw [← hnn] at c6
        rw [← g0, ← g1, ← g2', ← g3, ← g4, ← hrn, ← hnn] at HSm2 HRm
        clear hs hfs hL2 hr2 hn2 hL hr hn hr' g0 g1 g2' g3 g4 hrn hnn
        go_wp2_with fail
        refine HSm2.out.mono ?_; rintro e w7 ⟨rfl, q7⟩
        have O7 := Lib.hid (OO.out.below q7)
        clear q7 OO o1 b1 c0 c1 c2' c3 c4 c5 c6 HSm2
        have b1 : w7.cell? ⟨w.heap.size, 1, none⟩ = some (.slice (some ⟨b, o, none⟩) n c) := O7.out.box.cell 1
        have hLo := HLo.out w7 O7.out.low
        have c0 : w7.cell? ⟨b, o + k * 7, none⟩ = _ := hLo 0 _ rfl
        have c1 : w7.cell? ⟨b, o + k * 7 + 1, none⟩ = _ := hLo 1 _ rfl
        have c2' : w7.cell? ⟨b, o + k * 7 + 2, none⟩ = _ := hLo 2 _ rfl
        have c3 : w7.cell? ⟨b, o + k * 7 + 3, none⟩ = _ := hLo 3 _ rfl
        have c4 : w7.cell? ⟨b, o + k * 7 + 4, none⟩ = _ := hLo 4 _ rfl
        have c5 : w7.cell? ⟨b, o + k * 7 + 5, none⟩ = _ := hLo 5 _ rfl
        have c6 : w7.cell? ⟨b, o + k * 7 + 6, none⟩ = _ := hLo 6 _ rfl
        clear hLo HLo
        cases r
        all_goals
          have her2 := her
          unfold okI at her2
          simp only [if_true, Bool.false_eq_true, if_false] at her2
          clear her
          subst her2
          go_wp2_with fail
          refine (HRm.out _ O7.out.low).mono ?_; rintro e w8 ⟨rfl, q8⟩
          have O8 := Lib.hid (O7.out.below q8)
          clear q8 O7 b1 c0 c1 c2' c3 c4 c5 c6 HRm
          go_wp2_with fail
          go_roundw
          case rel => exact ⟨k + 1, by omega, by go_num, O8⟩
          case measure => simp [intOf]; omega
      · have hd : decide (k < n) = false := decide_eq_false hlt
        have o0 : wr.cell? ⟨g2, 0, none⟩ = some (.string M) := OO.out.own.cell 0
        have o1 : wr.cell? ⟨g2, 1, none⟩ = some (.slice a2 n c2) := OO.out.own.cell 1
        clear hlt
        go_wp2_with fail
        refine (HOf.out _ OO.out.syms).mono ?_; rintro e w7 ⟨he, q7⟩
        have O7 := Lib.hid (OO.out.below q7)
        clear q7 OO o0 o1 b1
        have b0 : w7.cell? ⟨w.heap.size, 0, none⟩ = some (.string M) := O7.out.box.cell 0
        have b1 : w7.cell? ⟨w.heap.size, 1, none⟩ = some (.slice a n c) := O7.out.box.cell 1
        cases E with
        | none =>
          obtain rfl : e = .returned (.tuple #[.int .i64 0, .bool false]) := he
          go_wp2_with fail
          refine (HFd.out _ O7.out.low).mono ?_; rintro e w8 ⟨he2, q8⟩
          obtain rfl : e = .returned (.tuple #[.int .i64 0, .bool false]) := he2
          have O8 := Lib.hid (O7.out.below q8)
          clear q8 O7 b0 b1
          have o0 : w8.cell? ⟨g2, 0, none⟩ = some (.string M) := O8.out.own.cell 0
          have o1 : w8.cell? ⟨g2, 1, none⟩ = some (.slice a2 n c2) := O8.out.own.cell 1
          have b0 : w8.cell? ⟨w.heap.size, 0, none⟩ = some (.string M) := O8.out.box.cell 0
          have b1 : w8.cell? ⟨w.heap.size, 1, none⟩ = some (.slice a n c) := O8.out.box.cell 1
          go_wp2_with fail
          refine (HSm.out _ _ O8.out.low (HOw.out _ O8.out.syms)).mono ?_; rintro e w9 ⟨rfl, q9⟩
          have O9 := Lib.hid (O8.out.below q9)
          clear q9 O8 o0 o1 b0 b1
          go_wp2_with fail
          refine (HAl.out _).mono ?_; rintro e w10 ⟨rfl, q10⟩
          have O10 := Lib.hid (O9.out.below q10)
          clear q10 O9
          go_wp2_with fail
          go_ret
          exact ⟨rfl, O10.out.low⟩
        | some i =>
          obtain rfl : e = .returned (.tuple #[.int .i64 (i : Int), .bool true]) := he
          go_wp2_with fail
          refine (HFd.out _ O7.out.low).mono ?_; rintro e w8 ⟨he2, q8⟩
          obtain rfl : e = .returned (.tuple #[.int .i64 (i : Int), .bool true]) := he2
          have O8 := Lib.hid (O7.out.below q8)
          clear q8 O7 b0 b1
          have o0 : w8.cell? ⟨g2, 0, none⟩ = some (.string M) := O8.out.own.cell 0
          have o1 : w8.cell? ⟨g2, 1, none⟩ = some (.slice a2 n c2) := O8.out.own.cell 1
          have b0 : w8.cell? ⟨w.heap.size, 0, none⟩ = some (.string M) := O8.out.box.cell 0
          have b1 : w8.cell? ⟨w.heap.size, 1, none⟩ = some (.slice a n c) := O8.out.box.cell 1
          go_wp2_with fail
          refine (HSm.out _ _ O8.out.low (HOw.out _ O8.out.syms)).mono ?_; rintro e w9 ⟨rfl, q9⟩
          have O9 := Lib.hid (O8.out.below q9)
          clear q9 O8 o0 o1 b0 b1
          go_wp2_with fail
          refine (HAl.out _).mono ?_; rintro e w10 ⟨rfl, q10⟩
          have O10 := Lib.hid (O9.out.below q10)
          clear q10 O9
          go_wp2_with fail
          go_ret
          exact ⟨rfl, O10.out.low⟩
end Go.Proofs.Ytiadggeheiadiaa
