/- Some texts of one proof, one behind the other; each has its own head below. -/
import Derived.Test.YtbpdoiikleaidaaX17
import Derived.Test.YtbpdoiikleaidaaX18
import Derived.Deep.DeepCutAuto
/- The document's Sym: a symbol. -/
section
set_option linter.unusedVariables false
set_option linter.unusedSimpArgs false
namespace Go.Proofs.Ytbpdoiikleaidaa
open Go Go.RowKit Oj

/-- What a symbol's numbers are held to. -/
def headOk (bi ki sz L : Int) : Prop := (bi ≤ 2) ∧ (1 ≤ ki ∧ ki ≤ 3) ∧ 1 ≤ sz ∧ sz ≤ 8192 ∧ L ≤ sz ∧ (ki = 1 → L = sz ∧ sz % 8 = 0)
instance (bi ki sz L : Int) : Decidable (headOk bi ki sz L) := by unfold headOk; infer_instance
theorem head_sym (s : Sy) (h0 : 0 ≤ s.bind) : symOk s = (nameOk s.name && decide (headOk s.bind s.kind s.size s.bytes.length) && relsOk s.bytes.length s.rels && notesOk s.notes) := by
  have e : decide (headOk s.bind s.kind s.size s.bytes.length) = (bindOk s.bind && sykOk s.kind && sizeOk s.kind s.size s.bytes.length) := by
    rw [Bool.eq_iff_iff, decide_eq_true_iff]
    unfold bindOk sykOk sizeOk headOk
    simp only [decide_eq_true_eq, Bool.and_eq_true]
    omega
  unfold symOk
  rw [e]
  simp only [Bool.and_assoc]

set_option maxHeartbeats 8000000 in
set_option maxRecDepth 100000 in
theorem rsym_any (s : Sy) (h : syFits s) (v : Value) (w : World) (hA : SymAt w v s) : Calls Try.prog 20 #[v] w fun e w' => e = .returned (.bool (symOk s)) ∧ Below w.heap.size w w' := by
  obtain ⟨vr, vn, rfl, hR, hN⟩ := hA
  have hall := h
  obtain ⟨f1, ⟨f2, f3⟩, ⟨f4, f5⟩, ⟨f6, f7⟩, f8, f9, f10, f11, f12⟩ := h
  have H1 := Lib.hid (fun W => rname_any (tx s.name) (by rw [tx_size]; exact f1) W)
  rw [by_tx] at H1
  have HRl := Lib.hid (fun W (hq : Below w.heap.size w W) (h8 : s.bytes.length ≤ 8192) => rrels_any s hall h8 vr vn (by obtain ⟨a, c, rfl, _⟩ := hN; exact ⟨_, _, _, rfl⟩) W (hR.below hq))
  have HNt := Lib.hid (fun j (hj : j < s.notes.length) W => rnote_any (s.notes.getD j Nt.nought) (f12 j hj) W)
  obtain ⟨ar, cr, hvr, _⟩ := hR
  obtain ⟨an, cn, hvn, h3⟩ := hN
  obtain ⟨nr, hnr⟩ : ∃ nr, nr = s.rels.length := ⟨_, rfl⟩
  obtain ⟨l, hl⟩ : ∃ l, l = s.notes := ⟨_, rfl⟩
  rw [← hl] at hvn h3 HNt f10
  obtain ⟨n, hn⟩ : ∃ n, n = l.length := ⟨_, rfl⟩
  rw [← hnr] at hvr
  rw [← hn] at hvn h3 f10
  have HLen := Lib.hid hn
  obtain ⟨p1, e1⟩ : ∃ p, p = nameOk s.name := ⟨_, rfl⟩
  obtain ⟨p2, e2⟩ : ∃ p, p = decide (headOk s.bind s.kind s.size s.bytes.length) := ⟨_, rfl⟩
  obtain ⟨p3, e3⟩ : ∃ p, p = relsOk s.bytes.length s.rels := ⟨_, rfl⟩
  obtain ⟨E, hE⟩ : ∃ E, E = symOk s := ⟨_, rfl⟩
  have HE : Hid (E = (p1 && p2 && p3 && notesOk l)) := Lib.hid (by rw [hE, head_sym s f2, e1, e2, e3, hl])
  unfold syV at HRl
  rw [← hE]
  rw [← e1] at H1
  rw [← e3] at HRl
  obtain ⟨nm, gnm⟩ : ∃ x, x = tx s.name := ⟨_, rfl⟩
  obtain ⟨bi, gbi⟩ : ∃ x, x = s.bind := ⟨_, rfl⟩
  obtain ⟨ki, gki⟩ : ∃ x, x = s.kind := ⟨_, rfl⟩
  obtain ⟨sz, gsz⟩ : ∃ x, x = s.size := ⟨_, rfl⟩
  obtain ⟨by1, gby⟩ : ∃ x, x = tx s.bytes := ⟨_, rfl⟩
  have hby : (by1.size : Int) = (s.bytes.length : Int) := by rw [gby, tx_size]
  rw [← gnm] at H1
  rw [← hby, ← gbi, ← gki, ← gsz] at e2
  rw [← gbi] at f2 f3
  rw [← gki] at f4 f5
  rw [← gsz] at f6 f7
  rw [← gnm, ← gbi, ← gki, ← gsz, ← gby] at HRl ⊢
  have f8' : (by1.size : Int) ≤ 140737488355328 := by omega
  have H8 : Hid (by1.size ≤ 8192 → s.bytes.length ≤ 8192) := Lib.hid (by omega)
  have hni : (n : Int) ≤ 11728124029610 := by omega
  have H3 := Lib.hid h3
  have HP2 := Lib.hid e2
  clear hall f1 f8 f9 f10 f11 f12 e1 e2 e3 hE hnr hn hl gnm gbi gki gsz gby hby h3
  subst hvr hvn
  have HB0 := Lib.hid (below_new1 w (.cells #[.string nm, .int .u8 bi, .int .u8 ki, .int .u32 sz, .string by1, .slice ar nr cr, .slice an n cn] 47))
  have HX0 := Lib.hid (Blk.new w 47 [.string nm, .int .u8 bi, .int .u8 ki, .int .u32 sz, .string by1, .slice ar nr cr, .slice an n cn])
  cases p1 with
  | false =>
    have hr : E = false := by rw [HE.out]; simp
    subst hr
    go_enter Try.func20, Try.ntmps20
    go_wp2_with fail
    refine (H1.out _).mono ?_; rintro e w1 ⟨rfl, rfl⟩
    go_wp2_with fail
    go_ret
    exact ⟨rfl, HB0.out⟩
  | true =>
  by_cases hh : headOk bi ki sz by1.size
  · have hg : (ki == 1) = false ∨ ((ki == 1) = true ∧ ((by1.size : Int) != sz) = false ∧ (sz % 8 != 0) = false) := by
      by_cases hk : ki = 1
      · right
        have := hh.2.2.2.2.2 hk
        exact ⟨by simp [hk], by rw [bne_eq_false_iff_eq]; exact this.1, by rw [bne_eq_false_iff_eq]; exact this.2⟩
      · left; simpa using hk
    obtain ⟨g1, ⟨g2, g3⟩, g4, g5, g6, g7⟩ := hh
    have hp2 : p2 = true := by rw [HP2.out]; exact decide_eq_true ⟨g1, ⟨g2, g3⟩, g4, g5, g6, g7⟩
    subst hp2
    have H88 := Lib.hid (H8.out (by omega))
    clear g7 H8
    rcases hg with hg | ⟨hg, hg2, hg3⟩
    all_goals
      go_enter Try.func20, Try.ntmps20
      go_wp2_with fail
      refine (H1.out _).mono ?_; rintro e w1 ⟨rfl, rfl⟩
      go_wp2_with fail
      go_loopw [3] (fun i wr => ∃ k : Nat, (k : Int) ≤ n ∧ i = .int .i64 k ∧ Hid (∀ j, j < k → noteOk (l.getD j Nt.nought) = true) ∧ Hid (Below w.heap.size w wr) ∧ Hid (Blk wr w.heap.size 47 [.string nm, .int .u8 bi, .int .u8 ki, .int .u32 sz, .string by1, .slice ar nr cr, .slice an n cn])) (fun i _ => n - (intOf i).toNat)
      case atStart => exact ⟨0, by omega, rfl, Lib.hid fun j hj => absurd hj (by omega), HB0, HX0⟩
      case round =>
        clear HB0 HX0
        obtain ⟨k, hk, rfl, HK, HB, HX⟩ := hrel
        have b6 : wr.cell? ⟨w.heap.size, 6, none⟩ = some (.slice an n cn) := HX.out.cell 6
        by_cases hlt : k < n
        · obtain ⟨b, o, rfl, hbl, hcl⟩ := H3.out (by omega)
          obtain ⟨x, hx⟩ : ∃ x, x = l.getD k Nt.nought := ⟨_, rfl⟩
          have hL := ((hcl k hlt).below HB.out hbl)
          rw [← hx] at hL
          obtain ⟨c0, c1, c2⟩ := hL.nt
          have HI := Lib.hid (HNt.out k (by rw [← HLen.out]; exact hlt))
          have hbr : b < wr.heap.size := Nat.lt_of_lt_of_le hbl HB.out.size
          obtain ⟨q, hq⟩ : ∃ q, q = noteOk x := ⟨_, rfl⟩
          rw [← hx, ← hq, ntV_eq] at HI
          obtain ⟨kk, hkk⟩ : ∃ kk, kk = x.kind := ⟨_, rfl⟩
          obtain ⟨n1, hn1⟩ : ∃ nn, nn = x.n := ⟨_, rfl⟩
          obtain ⟨m1, hm1⟩ : ∃ mm, mm = x.m := ⟨_, rfl⟩
          rw [← hkk, ← hn1, ← hm1] at HI
          rw [← hkk] at c0
          rw [← hn1] at c1
          rw [← hm1] at c2
          have HQ : Hid (q = noteOk (l.getD k Nt.nought)) := Lib.hid (by rw [hq, hx])
          have hd : decide (k < n) = true := decide_eq_true hlt
          clear hcl hL hkk hn1 hm1 hq hx
          cases q with
          | true =>
            have HK2 : Hid (∀ j, j < k + 1 → noteOk (l.getD j Nt.nought) = true) := Lib.hid fun j hj => by
              by_cases he : j = k
              · subst he; exact HQ.out.symm
              · exact HK.out j (by omega)
            clear HK HQ
            go_wp2_with fail
            refine (HI.out _).mono ?_; rintro e w2 ⟨rfl, q2⟩
            have HB2 := Lib.hid (below_call HB.out q2)
            have HX2 := Lib.hid (HX.out.call q2)
            clear q2
            go_wp2_with fail
            clear b6
            go_roundw
            case rel => exact ⟨k + 1, by omega, by go_num, HK2, HB2, HX2⟩
            case measure => simp [intOf]; omega
          | false =>
            have hr : E = false := by
              rw [HE.out]
              unfold notesOk
              rw [allN_false (k := k) (by rw [← HLen.out]; exact hlt) HQ.out.symm]
              simp
            subst hr
            clear HK HQ
            go_wp2_with fail
            refine (HI.out _).mono ?_; rintro e w2 ⟨rfl, q2⟩
            have HB2 := Lib.hid (below_call HB.out q2)
            clear q2
            go_wp2_with fail
            go_ret
            exact ⟨rfl, HB2.out⟩
        · have hd : decide (k < n) = false := decide_eq_false hlt
          have HA : Hid (allN l.length (fun k => noteOk (l.getD k Nt.nought)) = true) := Lib.hid (allN_true fun j hj => HK.out j (by rw [← HLen.out] at hj; omega))
          obtain ⟨c0, c1, c2, c3, c4, c5, c6⟩ := HX.out.seven
          clear hlt HK b6
          go_wp2_with fail
          refine (HRl.out _ HB.out H88.out).mono ?_; rintro e w2 ⟨rfl, q2⟩
          have HB2 := Lib.hid (below_call HB.out q2)
          have HX2 := Lib.hid (HX.out.call q2)
          clear q2 c0 c1 c2 c3 c4 c5 c6
          have b6 : w2.cell? ⟨w.heap.size, 6, none⟩ = some (.slice an n cn) := HX2.out.cell 6
          cases p3 with
          | false =>
            have hr : E = false := by rw [HE.out]; simp
            subst hr
            go_wp2_with fail
            go_ret
            exact ⟨rfl, HB2.out⟩
          | true =>
            by_cases hb : n ≤ 8
            · have hb2 : (n : Int) ≤ 8 := by omega
              have hr : E = true := by rw [HE.out]; unfold notesOk; rw [HA.out, decide_eq_true (by rw [← HLen.out]; exact hb)]; rfl
              subst hr
              clear hb
              go_wp2_with fail
              go_ret
              exact ⟨rfl, HB2.out⟩
            · have hb2 : (8 : Int) < (n : Int) := by omega
              have hr : E = false := by rw [HE.out]; unfold notesOk; rw [decide_eq_false (by rw [← HLen.out]; exact hb)]; rfl
              subst hr
              clear hb
              go_wp2_with fail
              go_ret
              exact ⟨ret_bool (decide_eq_false (by omega)), HB2.out⟩
  · have hp2 : p2 = false := by rw [HP2.out]; exact decide_eq_false hh
    have hr : E = false := by rw [HE.out, hp2]; simp
    subst hr
    have HH := Lib.hid hh
    clear hh hp2 HP2
    go_enter Try.func20, Try.ntmps20
    go_wp2_with fail
    refine (H1.out _).mono ?_; rintro e w1 ⟨rfl, rfl⟩
    go_wp2_with fail
    all_goals first
      | (go_ret; exact ⟨rfl, below_new1 _ _⟩)
      | (exfalso; have hx := HH.out; unfold headOk at hx; omega)
      | (exfalso; have hx := HH.out; unfold headOk at hx; clear H1 HRl HNt HLen HE H8 H3 HB0 HX0 HH; simp only [beq_iff_eq, beq_eq_false_iff_ne, ne_eq, bne_iff_ne, bne_eq_false_iff_eq, decide_eq_true_eq, decide_eq_false_iff_not] at *; omega)
end Go.Proofs.Ytbpdoiikleaidaa
end

/- The document's May: an object. -/
section
set_option linter.unusedVariables false
set_option linter.unusedSimpArgs false
namespace Go.Proofs.Ytbpdoiikleaidaa
open Go Go.RowKit Oj

theorem below_drew {w wr : World} (hb : Below w.heap.size w wr) (n : Nat) : Below w.heap.size w (wr.drewN n) := below_call hb (below_drewN _ n)
theorem Blk.drewN {w : World} {g : Nat} {t : TypeId} {cs : List Value} (h : Blk w g t cs) (n : Nat) : Blk (w.drewN n) g t cs := h

set_option maxHeartbeats 8000000 in
set_option maxRecDepth 100000 in
theorem rmay_any (v : Value) (x : Ob) (hf : obFits x) (w : World) (hA : ObAt w v x) : Calls Try.prog 11 #[v] w fun e w' => e = .returned (.bool (obOk x)) ∧ Below w.heap.size w w' := by
  obtain ⟨nm, l⟩ := x
  obtain ⟨hf1, hf2, hf3⟩ := hf
  obtain ⟨vs, rfl, hS⟩ := hA
  simp only at hf1 hf2 hf3 hS ⊢
  have H1 := Lib.hid (fun W => rname_any (tx nm) (by rw [tx_size]; exact hf1) W)
  rw [by_tx] at H1
  obtain ⟨p1, e1⟩ : ∃ p, p = nameOk nm := ⟨_, rfl⟩
  obtain ⟨R, N, ⟨a, c, rfl, h2⟩, h3⟩ := hS
  obtain ⟨n, hn⟩ : ∃ n, n = l.length := ⟨_, rfl⟩
  obtain ⟨M, hM⟩ : ∃ M, M = tx nm := ⟨_, rfl⟩
  rw [← e1, ← hM] at H1
  rw [← hn] at h2 ⊢
  rw [← hM]
  have HN := Lib.hid hn
  have H2 := Lib.hid h2
  have H3 := Lib.hid h3
  have HF := Lib.hid hf3
  obtain ⟨E, hE⟩ : ∃ E, E = obOk ⟨nm, l⟩ := ⟨_, rfl⟩
  have HE : Hid (E = (p1 && decide (n ≤ 64) && symsOk l)) := Lib.hid (by rw [hE, e1, hn]; rfl)
  rw [← hE]
  have hni : (n : Int) ≤ 1599289640402 := by omega
  have HB0 := Lib.hid (below_new1 w (.cells #[.string M, .slice a n c] 24))
  have HX0 := Lib.hid (Blk.new w 24 [.string M, .slice a n c])
  clear e1 hn hM h2 h3 hf1 hf2 hf3 hE
  go_enter Try.func11, Try.ntmps11
  go_wp2_with fail
  go_loopw [3] (fun i wr => ∃ k : Nat, (k : Int) ≤ n ∧ i = .int .i64 k ∧ Hid (∀ j, j < k → (symOk (l.getD j Sy.nought) && apartOk l j) = true) ∧ Hid (Below w.heap.size w wr) ∧ Hid (Blk wr w.heap.size 24 [.string M, .slice a n c])) (fun i _ => n - (intOf i).toNat)
  case atStart => exact ⟨0, by omega, rfl, Lib.hid fun j hj => absurd hj (by omega), HB0, HX0⟩
  case round =>
    clear HB0 HX0
    obtain ⟨k, hk, rfl, HK, HB, HX⟩ := hrel
    have b1 : wr.cell? ⟨w.heap.size, 1, none⟩ = some (.slice a n c) := HX.out.cell 1
    by_cases hlt : k < n
    · obtain ⟨b, o, rfl, hbl, hcl⟩ := H2.out (by omega)
      have HCL := Lib.hid hcl
      obtain ⟨s, hs⟩ : ∃ s, s = l.getD k Sy.nought := ⟨_, rfl⟩
      have hkl : k < l.length := by rw [← HN.out]; exact hlt
      have hL := ((hcl k hlt).below HB.out hbl)
      obtain ⟨hr0, hn0⟩ := H3.out k hkl
      have hfs := HF.out k hkl
      rw [← hs] at hL hr0 hn0 hfs
      obtain ⟨c0, c1, c2, c3, c4, c5, c6⟩ := hL.sy
      have hbr : b < wr.heap.size := Nat.lt_of_lt_of_le hbl HB.out.size
      have HI := Lib.hid (fun W (hq : Below w.heap.size w W) => rsym_any s hfs _ W ((SymAt.mk hr0 hn0).below hq))
      obtain ⟨p, hp⟩ : ∃ p, p = symOk s := ⟨_, rfl⟩
      rw [← hp] at HI
      have HP : Hid ((symOk (l.getD k Sy.nought) && apartOk l k) = (p && apartOk l k)) := Lib.hid (by rw [← hs, ← hp])
      obtain ⟨u0, g0⟩ : ∃ u, u = tx s.name := ⟨_, rfl⟩
      obtain ⟨u1, g1⟩ : ∃ u, u = s.bind := ⟨_, rfl⟩
      obtain ⟨u2, g2⟩ : ∃ u, u = s.kind := ⟨_, rfl⟩
      obtain ⟨u3, g3⟩ : ∃ u, u = s.size := ⟨_, rfl⟩
      obtain ⟨u4, g4⟩ : ∃ u, u = tx s.bytes := ⟨_, rfl⟩
      obtain ⟨u5, g5⟩ : ∃ u, u = R k := ⟨_, rfl⟩
      obtain ⟨u6, g6⟩ : ∃ u, u = N k := ⟨_, rfl⟩
      obtain ⟨ra, rc, hrv, _⟩ := hr0
      obtain ⟨na, nc, hnv, _⟩ := hn0
      rw [← g0, ← g1, ← g2, ← g3, ← g4, ← g5, ← g6] at HI
      rw [← g0] at c0
      rw [← g1] at c1
      rw [← g2] at c2
      rw [← g3] at c3
      rw [← g4] at c4
      rw [← g5] at c5 hrv
      rw [← g6] at c6 hnv
      obtain ⟨rn, hrn⟩ : ∃ x, x = s.rels.length := ⟨_, rfl⟩
      obtain ⟨nn, hnn⟩ : ∃ x, x = s.notes.length := ⟨_, rfl⟩
      rw [← hrn] at hrv
      rw [← hnn] at hnv
      have hd : decide (k < n) = true := decide_eq_true hlt
      have HU0 : Hid (by' u0 = (l.getD k Sy.nought).name) := Lib.hid (by rw [g0, by_tx, hs])
      clear hcl hL hfs hs hp g0 g1 g2 g3 g4 g5 g6 hrn hnn
      subst hrv hnv
      go_wp2_with fail
      refine (HI.out _ HB.out).mono ?_; rintro e w2 ⟨rfl, q2⟩
      have HB2 := Lib.hid (below_call HB.out q2)
      have HX2 := Lib.hid (HX.out.call q2)
      clear q2 b1 c0 c1 c2 c3 c4 c5 c6 hbr
      cases p
      · have hr : E = false := by
          rw [HE.out]
          unfold symsOk
          rw [allN_false (k := k) hkl (by rw [HP.out]; rfl), Bool.and_false]
        subst hr
        go_wp2_with fail
        go_ret
        exact ⟨rfl, HB2.out⟩
      go_wp2_with fail
      go_loopw [4] (fun i wi => ∃ m : Nat, (m : Int) ≤ k ∧ i = .int .i64 m ∧ Hid (∀ j, j < m → (l.getD j Sy.nought).name ≠ (l.getD k Sy.nought).name) ∧ Hid (Below w.heap.size w wi) ∧ Hid (Blk wi w.heap.size 24 [.string M, .slice (some ⟨b, o, none⟩) n c])) (fun i _ => k - (intOf i).toNat)
      case atStart => exact ⟨0, by omega, rfl, Lib.hid fun j hj => absurd hj (by omega), HB2, HX2⟩
      case round =>
        clear HB2 HX2
        obtain ⟨m, hm, rfl, HM, HBi, HXi⟩ := hrel
        by_cases hmk : m < k
        · have hmd : decide (m < k) = true := decide_eq_true hmk
          have hmn : m < n := by omega
          have hmn2 : decide (m < n) = true := decide_eq_true hmn
          obtain ⟨V, hV⟩ : ∃ V, V = tx (l.getD m Sy.nought).name := ⟨_, rfl⟩
          have cm := ((HCL.out m hmn).below HBi.out hbl).sy.1
          have ck := ((HCL.out k hlt).below HBi.out hbl).sy.1
          have e0 : u0 = tx (l.getD k Sy.nought).name := by rw [← HU0.out, tx_by]
          rw [← hV] at cm
          rw [← e0] at ck
          have b1 : wr.cell? ⟨w.heap.size, 1, none⟩ = some (.slice (some ⟨b, o, none⟩) n c) := HXi.out.cell 1
          have hst := str_eq V u0
          have hbV : by' V = (l.getD m Sy.nought).name := by rw [hV, by_tx]
          rw [hbV, HU0.out] at hst
          clear e0 hV hbV
          by_cases he : (l.getD m Sy.nought).name = (l.getD k Sy.nought).name
          · rw [decide_eq_true he] at hst
            have hr : E = false := by
              rw [HE.out]
              unfold symsOk
              rw [allN_false (k := k) hkl (by rw [HP.out]; unfold apartOk; rw [allN_false hmk (decide_eq_false fun hn => hn he)]; rfl), Bool.and_false]
            subst hr
            clear he
            go_upto_region 9 with (fail)
            go_quiet (fail)
            go_wp2_with fail
            go_ret
            exact ⟨rfl, below_drew HBi.out _⟩
          · rw [decide_eq_false he] at hst
            have HM2 : Hid (∀ j, j < m + 1 → (l.getD j Sy.nought).name ≠ (l.getD k Sy.nought).name) := Lib.hid fun j hj => by
              by_cases hx : j = m
              · subst hx; exact he
              · exact HM.out j (by omega)
            clear he HM
            go_upto_region 9 with (fail)
            go_quiet (fail)
            go_wp2_with fail
            clear cm ck b1 hst
            go_roundw
            case rel => exact ⟨m + 1, by omega, by go_num, HM2, Lib.hid (below_drew HBi.out _), Lib.hid (HXi.out.drewN _)⟩
            case measure => simp [intOf]; omega
        · have hmd : decide (m < k) = false := decide_eq_false hmk
          have HK2 : Hid (∀ j, j < k + 1 → (symOk (l.getD j Sy.nought) && apartOk l j) = true) := Lib.hid fun j hj => by
            by_cases hx : j = k
            · subst hx
              rw [HP.out]
              unfold apartOk
              rw [allN_true fun j hj => decide_eq_true (HM.out j (by omega))]
              rfl
            · exact HK.out j (by omega)
          clear hmk HM HK
          go_wp2_with fail
          go_roundw
          case rel => exact ⟨k + 1, by omega, by go_num, HK2, HBi, HXi⟩
          case measure => simp [intOf]; omega
    · have hd : decide (k < n) = false := decide_eq_false hlt
      have HA : Hid (symsOk l = true) := Lib.hid (by
        unfold symsOk
        exact allN_true fun j hj => HK.out j (by rw [← HN.out] at hj; omega))
      have b0 : wr.cell? ⟨w.heap.size, 0, none⟩ = some (.string M) := HX.out.cell 0
      clear hlt HK
      go_wp2_with fail
      refine (H1.out _).mono ?_; rintro e w2 ⟨rfl, rfl⟩
      cases p1
      · have hr : E = false := by rw [HE.out]; simp
        subst hr
        go_wp2_with fail
        go_ret
        exact ⟨rfl, HB.out⟩
      · by_cases hb : n ≤ 64
        · have hb2 : (n : Int) ≤ 64 := by omega
          have hr : E = true := by rw [HE.out, HA.out, decide_eq_true hb]; rfl
          subst hr
          clear hb
          go_wp2_with fail
          go_ret
          exact ⟨rfl, HB.out⟩
        · have hb2 : (64 : Int) < (n : Int) := by omega
          have hr : E = false := by rw [HE.out, decide_eq_false hb]; rfl
          subst hr
          clear hb
          go_wp2_with fail
          go_ret
          exact ⟨ret_bool (decide_eq_false (by omega)), HB.out⟩
end Go.Proofs.Ytbpdoiikleaidaa
end
