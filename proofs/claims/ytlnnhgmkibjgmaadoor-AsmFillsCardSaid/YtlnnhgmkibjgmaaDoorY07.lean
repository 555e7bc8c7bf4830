/- AsmFills, walked. -/
import Derived.Test.YtlnnhgmkibjgmaaDoorY06
import Derived.Test.YtlnnhgmkibjgmaaDoorX43
import Derived.Laws.BytesString
import Derived.BigQuiet
import Derived.Deep.DeepCutAuto
set_option linter.unusedVariables false
set_option linter.unusedSimpArgs false
namespace Go.Proofs.YtlnnhgmkibjgmaaDoor
open Go Go.RowKit Oj Al

def self4 : List UInt8 := [115, 101, 108, 102]
theorem SymAt.form {w : World} {v : Value} {X : Sy} (hX : SymAt w v X) : ∃ ar cr an cn, v = .agg #[.string (tx X.name), .int .u8 X.bind, .int .u8 X.kind, .int .u32 X.size, .string (tx X.bytes), .slice ar X.rels.length cr, .slice an X.notes.length cn] ∧ RelsAt w (.slice ar X.rels.length cr) X.rels ∧ NotesAt w (.slice an X.notes.length cn) X.notes := by
  obtain ⟨vr, vn, rfl, h1, h2⟩ := hX
  obtain ⟨a, c, rfl, _⟩ := id h1
  obtain ⟨a', c', rfl, _⟩ := id h2
  exact ⟨a, c, a', c', rfl, h1, h2⟩
theorem fillR_length (self : List UInt8) (own other : Int) (b : List UInt8) (x : Rl) (h : x.off.toNat + 4 ≤ b.length) : (fillR self own other b x).length = b.length := put4_length b _ _ h
theorem fills_length (self : List UInt8) (own other : Int) : ∀ (rs : List Rl) (b : List UInt8), (∀ x ∈ rs, x.off.toNat + 4 ≤ b.length) → (rs.foldl (fillR self own other) b).length = b.length
  | [], b, _ => rfl
  | x :: rs, b, h => by
    have h1 := fillR_length self own other b x (h x (List.mem_cons_self ..))
    rw [List.foldl_cons, fills_length self own other rs _ (fun y hy => by rw [h1]; exact h y (List.mem_cons_of_mem _ hy)), h1]
theorem fills_step (self : List UInt8) (own other : Int) (rs : List Rl) (b : List UInt8) (k : Nat) (hk : k < rs.length) : (rs.take (k + 1)).foldl (fillR self own other) b = fillR self own other ((rs.take k).foldl (fillR self own other) b) (rs.getD k Rl.nought) := by
  rw [List.take_succ_eq_append_getElem hk, List.foldl_append, List.getD_eq_getElem?_getD, List.getElem?_eq_getElem hk]
  rfl
set_option maxHeartbeats 32000000 in
set_option maxRecDepth 100000 in
theorem afills_any (l : List Ln) (vl : Value) (ow ot : Int) (w : World) (hL : LinesAt w vl l) (hlf : lnsFit l) (hw1 : 0 ≤ ow ∧ ow < 4294967296) (hw2 : 0 ≤ ot ∧ ot < 4294967296) (hT : I.Tabled w) :
    Calls Tryd.prog 6 #[vl, .int .u32 ow, .int .u32 ot] w fun e w' => e = .returned (.bool true) ∧ Below w.heap.size w w' := by
  obtain ⟨al, cl, hvl⟩ : ∃ al cl, vl = .slice al l.length cl := by obtain ⟨a, c, h, _⟩ := id hL; exact ⟨a, c, h⟩
  subst hvl
  have HAl : Hid (∀ W, Below w.heap.size w W → Calls Tryd.prog 8 #[] W fun e w' => e = .returned (.bool true) ∧ Below W.heap.size W w') := Lib.hid (fun W hW => aalive_any asmOK W (hT.below hW))
  have HL1 : Hid (∀ W, Below w.heap.size w W → Calls Tryd.prog 7 #[.slice al l.length cl, .slice none 0 0] W (LongPost l.length 0 W)) := Lib.hid (fun W hW => long_any l _ none 0 0 W (SlC.below hL hW (Nat.le_refl _)) hlf (Nat.zero_le _))
  have HMk : Hid (∀ W, Below w.heap.size w W → Calls Tryd.prog 9 #[.string ⟨#[115, 101, 108, 102]⟩, .int .u8 1, .slice none 0 0, .slice al l.length cl] W (MkPost W (mkE self4 1 [] l) (mkS self4 1 [] l))) := Lib.hid (fun W hW => asmOK.make ⟨#[115, 101, 108, 102]⟩ 1 [] _ l _ W (by decide) (by decide) (no_notes W) (by decide) (fun j hj => absurd hj (Nat.not_lt_zero j)) (SlC.below hL hW (Nat.le_refl _)) hlf (hT.below hW))
  unfold LongPost at HL1
  unfold MkPost at HMk
  obtain ⟨EE, hEE⟩ : ∃ t, t = mkE self4 1 [] l := ⟨_, rfl⟩
  obtain ⟨SS, hSS⟩ : ∃ t, t = mkS self4 1 [] l := ⟨_, rfl⟩
  rw [← hEE, ← hSS] at HMk
  have HES := Lib.hid (And.intro hEE hSS)
  have HLT := Lib.hid (And.intro hL (And.intro hlf hT))
  have B0 := Lib.hid (Below.refl w.heap.size w)
  clear hEE hSS hL hlf hT
  go_enter Tryd.func6, Tryd.ntmps6
  go_wp2_with fail
  refine (HL1.out _ B0.out).mono ?_; rintro e w1 ⟨b1, rfl, hb1, q1⟩
  have B1 := Lib.hid (below_call B0.out q1)
  clear q1 B0 HL1
  cases b1
  case true =>
    go_wp2_with fail
    refine (HAl.out _ B1.out).mono ?_; rintro e w9 ⟨rfl, q9⟩
    have B9 := Lib.hid (below_call B1.out q9)
    clear q9
    go_wp2_with fail
    go_ret
    exact ⟨rfl, B9.out⟩

  have HB1 := Lib.hid (hb1 rfl).1
  clear hb1
  go_wp2_with fail
  refine (HMk.out _ B1.out).mono ?_; rintro e w2 ⟨v2, rfl, hs2, q2⟩
  have B2 := Lib.hid (below_call B1.out q2)
  obtain ⟨ar, cr, an, cn, hv2, hr2, hn2⟩ := hs2.form
  subst hv2
  obtain ⟨c0, hc0⟩ : ∃ t, t = tx SS.name := ⟨_, rfl⟩
  obtain ⟨c1, hc1⟩ : ∃ t, t = SS.bind := ⟨_, rfl⟩
  obtain ⟨c2, hc2⟩ : ∃ t, t = SS.kind := ⟨_, rfl⟩
  obtain ⟨c3, hc3⟩ : ∃ t, t = SS.size := ⟨_, rfl⟩
  obtain ⟨c4, hc4⟩ : ∃ t, t = tx SS.bytes := ⟨_, rfl⟩
  obtain ⟨nr, hnr⟩ : ∃ t, t = SS.rels.length := ⟨_, rfl⟩
  obtain ⟨nn, hnn⟩ : ∃ t, t = SS.notes.length := ⟨_, rfl⟩
  rw [← hnr] at hr2
  rw [← hnn] at hn2
  rw [← hc0, ← hc1, ← hc2, ← hc3, ← hc4, ← hnr, ← hnn] at hs2 ⊢
  have HSV := Lib.hid (And.intro hs2 (And.intro hc4 hnr))
  have HRV := Lib.hid hr2
  have hnb := below_new1 w2 (.cells #[.string c0, .int .u8 c1, .int .u8 c2, .int .u32 c3, .string c4, .slice ar nr cr, .slice an nn cn] 29)
  have X3 := Lib.hid (Blk.new w2 29 [.string c0, .int .u8 c1, .int .u8 c2, .int .u32 c3, .string c4, .slice ar nr cr, .slice an nn cn])
  have B3 := Lib.hid (below_call B2.out hnb)
  have Q3 := Lib.hid hnb
  clear hnb q2 hs2 hr2 hn2 hc0 hc1 hc2 hc3 hc4 hnr hnn B1 B2 HMk
  by_cases hE : EE = 0
  case neg =>
    have hE' : (EE != 0) = true := by simpa using hE
    clear hE
    go_wp2_with fail
    refine (HAl.out _ B3.out).mono ?_; rintro e w9 ⟨rfl, q9⟩
    have B9 := Lib.hid (below_call B3.out q9)
    clear q9
    go_wp2_with fail
    go_ret
    exact ⟨rfl, B9.out⟩

  have hE' : (EE != 0) = false := by simpa using hE
  have hz := mkE_zero (HES.out.1.symm.trans hE)
  have hSy : SS = symL self4 1 [] l := by rw [HES.out.2]; unfold mkS; rw [if_pos (HES.out.1.symm.trans hE)]
  have HZ := Lib.hid hz
  have HSy := Lib.hid hSy
  subst hE
  clear hz hSy
  go_upto_region 6 with (fail)
  obtain ⟨g7, hg7⟩ : ∃ t, t = w2.heap.size := ⟨_, rfl⟩
  obtain ⟨w3, hw3⟩ : ∃ t, t = w2.alloc (.cells #[.string c0, .int .u8 c1, .int .u8 c2, .int .u32 c3, .string c4, .slice ar nr cr, .slice an nn cn] 29) := ⟨_, rfl⟩
  rw [← hw3] at X3 B3 Q3 ⊢
  rw [← hg7] at X3 ⊢
  have HOS : Hid (Calls Tryd.prog 30 #[.agg #[.string c0, .int .u8 c1, .int .u8 c2, .int .u32 c3, .string c4, .slice ar nr cr, .slice an nn cn]] w3 fun e w' => e = .returned (.int .i64 0) ∧ Below w3.heap.size w3 w') := Lib.hid (by
    have hs3 := HSV.out.1.below (w' := w3) (by rw [hw3]; exact below_new1 _ _)
    rw [HSy.out] at hs3
    have h := osym_any _ (symL self4 1 [] l) (symL_fits (by decide) (by decide) HLT.out.2.1 HZ.out.1 (by decide) (fun j hj => absurd hj (Nat.not_lt_zero j))) w3 hs3
    rw [HZ.out.2.2.2.2] at h
    exact h)
  have HRV3 : Hid (RelsAt w3 (.slice ar nr cr) SS.rels) := Lib.hid (SlC.below HRV.out (B := w2.heap.size) (by rw [hw3]; exact below_new1 _ _) (Nat.le_refl _))
  clear hw3 hg7 HRV Q3
  have HSZ : Hid (c4.size = 8 * l.length) := Lib.hid (by rw [HSV.out.2.1, HSy.out]; exact bytesL_length l)
  have hszi : (c4.size : Int) = 8 * (l.length : Int) := by have := HSZ.out; omega
  have hni : (l.length : Int) ≤ 1024 := by have := HZ.out.1; omega
  obtain ⟨x0, x1, x2, x3, x4, x5, x6⟩ := X3.out.seven
  go_wp2_with fail
  refine HOS.out.mono ?_; rintro e w4 ⟨rfl, q4⟩
  have Q4 := Lib.hid q4
  have X4 := Lib.hid (X3.out.call q4)
  clear q4 HOS x0 x1 x2 x3 x4 x5 x6
  obtain ⟨x0, x1, x2, x3, x4, x5, x6⟩ := X4.out.seven
  have HCv : Hid (∀ W, (convert 9 56 (.string c4)).run Tryd.prog W = .ok (.slice (some ⟨W.heap.size, 0, none⟩) c4.size (grownCap W c4.size 0 5)) (Lib.bytesWorld W 5 c4)) := Lib.hid (fun W => Lib.run_convert_string_bytes (P := Tryd.prog) W 9 56 5 c4 Tryd.underlying9 Tryd.underlying56 Tryd.underlying5)
  have hconv := HCv.out w4
  have HM5 := Lib.hid (BM.new w4 c4 (by have := HSZ.out; have := HZ.out.1; unfold maxLen; omega))
  have Q5 := Lib.hid (bytes_below w4 5 c4)
  obtain ⟨G, hG⟩ : ∃ t, t = grownCap w4 c4.size 0 5 := ⟨_, rfl⟩
  obtain ⟨gb, hgb⟩ : ∃ t, t = w4.heap.size := ⟨_, rfl⟩
  obtain ⟨w5, hw5⟩ : ∃ t, t = Lib.bytesWorld w4 5 c4 := ⟨_, rfl⟩
  rw [← hG, ← hgb, ← hw5] at hconv HM5
  rw [← hgb, ← hw5] at Q5
  have HGB : Hid (w3.heap.size ≤ gb) := Lib.hid (by rw [hgb]; exact Q4.out.size)
  have P5 : Hid (Below w3.heap.size w3 w5) := Lib.hid (by have h := Q5.out; rw [hgb] at h; exact below_call Q4.out h)
  have HBY : Hid (by' c4 = bytesL l) := Lib.hid (by rw [HSV.out.2.1, by_tx, HSy.out]; rfl)
  rw [HBY.out] at HM5
  have HRL : Hid (∀ k, k < nr → (SS.rels.getD k Rl.nought).kind = 1 ∧ 0 ≤ (SS.rels.getD k Rl.nought).off ∧ (SS.rels.getD k Rl.nought).off + 4 ≤ 8 * (l.length : Int)) := Lib.hid (fun k hk => by
    have h1 : SS.rels = relsL self4 l l.length := by rw [HSy.out]; rfl
    have hk2 : k < SS.rels.length := by rw [← HSV.out.2.2]; exact hk
    rw [h1] at hk2 ⊢
    exact relsL_in l.length (Nat.le_refl _) _ (getD_mem8 hk2))
  have HLB : Hid ((bytesL l).length = 8 * l.length) := Lib.hid (bytesL_length l)
  clear hG hgb hw5 Q5 X4 HCv
  go_upto_region 9 with (fail)
  clear hconv x0 x1 x2 x3 x4 x5 x6
  obtain ⟨FL, hFL⟩ : ∃ F : Nat → List UInt8, F = fun k => (SS.rels.take k).foldl (fillR self4 ow ot) (bytesL l) := ⟨_, rfl⟩
  have HF0 : Hid (BM w5 gb G (FL 0)) := Lib.hid (by rw [hFL]; simpa using HM5.out)
  have HFS : Hid (∀ k, k < nr → FL (k + 1) = fillR self4 ow ot (FL k) (SS.rels.getD k Rl.nought)) := Lib.hid (fun k hk => by rw [hFL]; exact fills_step _ _ _ _ _ k (by rw [← HSV.out.2.2]; exact hk))
  have HFN : Hid (∀ k, (FL k).length = 8 * l.length) := Lib.hid (fun k => by
    rw [hFL]
    show ((SS.rels.take k).foldl (fillR self4 ow ot) (bytesL l)).length = 8 * l.length
    rw [fills_length _ _ _ _ _ (fun x hx => ?_), HLB.out]
    have h1 : SS.rels = relsL self4 l l.length := by rw [HSy.out]; rfl
    have h2 := relsL_in (nm := self4) (l := l) l.length (Nat.le_refl _) x (by rw [← h1]; exact List.mem_of_mem_take hx)
    rw [HLB.out]
    omega)
  have HRX : Hid (∀ k, k < nr → ∃ gr o, ar = some ⟨gr, o, none⟩ ∧ gr < w3.heap.size ∧ LieC w3 gr (o + k * 4) (rlCells (SS.rels.getD k Rl.nought))) := Lib.hid (fun k hk => by
    obtain ⟨a', c', he, h2⟩ := HRV3.out
    injection he with e1 e2 e3
    subst e1
    obtain ⟨gr, o, h3, h4, h5⟩ := h2 (by omega)
    exact ⟨gr, o, h3, h4, h5 k (by omega)⟩)
  have HRF : Hid (∀ k, k < nr → 0 ≤ (SS.rels.getD k Rl.nought).add ∧ (SS.rels.getD k Rl.nought).add < 4294967296) := Lib.hid (fun k hk => by
    have hf := symL_fits (nm := self4) (bi := 1) (nt := []) (by decide) (by decide) HLT.out.2.1 HZ.out.1 (by decide) (fun j hj => absurd hj (Nat.not_lt_zero j))
    rw [← HSy.out] at hf
    exact (hf.2.2.2.2.2.2.2.1 k (by rw [← HSV.out.2.2]; exact hk)).2.2.1)
  have hnri : (nr : Int) ≤ 2048 := by
    have h1 : SS.rels.length ≤ 2 * l.length := by rw [HSy.out]; exact relsL_le self4 l l.length
    have := HSV.out.2.2
    omega
  have HALL : Hid (FL nr = (relsL self4 l l.length).foldl (fillR self4 ow ot) (bytesL l)) := Lib.hid (by
    have h1 : SS.rels = relsL self4 l l.length := by rw [HSy.out]; rfl
    rw [hFL]
    show (SS.rels.take nr).foldl (fillR self4 ow ot) (bytesL l) = _
    rw [HSV.out.2.2, List.take_length, h1])
  clear hFL HM5 HRV3
  go_wp2_with fail
  go_loopw [10] (fun i wr => ∃ k : Nat, (k : Int) ≤ nr ∧ i = .int .i64 k ∧ Hid (BM wr gb G (FL k)) ∧ Hid (Below w3.heap.size w3 wr)) (fun i _ => nr - (intOf i).toNat)
  case atStart => exact ⟨0, by omega, rfl, HF0, P5⟩
  case round =>
    obtain ⟨k, hk, rfl, hM, hB⟩ := hrel
    have x5 := (X3.out.below hB.out X3.out.lt).cell 5
    simp only [List.getElem?_cons_zero, List.getElem?_cons_succ] at x5
    by_cases hlt : k < nr
    · obtain ⟨gr, o, rfl, hgr, hcx⟩ := HRX.out k hlt
      have HFSk := Lib.hid (HFS.out k hlt)
      have hrl := HRL.out k hlt
      have hrf := HRF.out k hlt
      obtain ⟨⟨off, kind, nam, add⟩, hx⟩ : ∃ x, x = SS.rels.getD k Rl.nought := ⟨_, rfl⟩
      rw [← hx] at hcx HFSk hrl hrf
      unfold rlCells at hcx
      simp only at hcx hrl hrf
      obtain ⟨rfl, ho0, ho1⟩ := hrl
      obtain ⟨O, hO⟩ : ∃ O : Nat, off = (O : Int) := ⟨off.toNat, by omega⟩
      subst hO
      obtain ⟨hadd0, hadd1⟩ := hrf
      have hse := str_eq (tx nam) (tx self4)
      rw [by_tx, by_tx, show (tx self4).toList = [115, 101, 108, 102] by rw [ByteArray.toList_eq]; rfl] at hse
      obtain ⟨NM, hNM⟩ : ∃ L, L = tx nam := ⟨_, rfl⟩
      rw [← hNM] at hcx hse
      have y0 := (hB.out.cell (p := ⟨gr, o + k * 4 + 0, none⟩) hgr).trans (hcx 0 _ rfl)
      have y1 := (hB.out.cell (p := ⟨gr, o + k * 4 + 1, none⟩) hgr).trans (hcx 1 _ rfl)
      have y2 := (hB.out.cell (p := ⟨gr, o + k * 4 + 2, none⟩) hgr).trans (hcx 2 _ rfl)
      have y3 := (hB.out.cell (p := ⟨gr, o + k * 4 + 3, none⟩) hgr).trans (hcx 3 _ rfl)
      rw [Nat.add_zero] at y0
      have hdk : decide (k < nr) = true := decide_eq_true hlt
      clear hcx hx hNM
      go_upto_region 13 with (fail)
      have HR1 := Lib.hid (Blk.new wr 58 [.int .u32 (O : Int), .int .u8 1, .string NM, .int .u32 add])
      have hnb := below_new1 wr (.cells #[.int .u32 (O : Int), .int .u8 1, .string NM, .int .u32 add] 58)
      have HM1 := Lib.hid (hM.out.below hnb)
      have HB2 := Lib.hid (below_call hB.out hnb)
      have HGR : Hid (gb ≠ wr.heap.size) := Lib.hid (Nat.ne_of_lt hM.out.lt)
      obtain ⟨gR, hgR⟩ : ∃ t, t = wr.heap.size := ⟨_, rfl⟩
      obtain ⟨w6, hw6⟩ : ∃ t, t = wr.alloc (.cells #[.int .u32 (O : Int), .int .u8 1, .string NM, .int .u32 add] 58) := ⟨_, rfl⟩
      rw [← hw6] at HR1 HM1 HB2 ⊢
      rw [← hgR] at HR1 HGR ⊢
      clear hw6 hgR hnb y0 y1 y2 y3 hM hB x5
      have z0 := HR1.out.cell 0
      have z1 := HR1.out.cell 1
      have z2 := HR1.out.cell 2
      have z3 := HR1.out.cell 3
      simp only [List.getElem?_cons_zero, List.getElem?_cons_succ] at z0 z1 z2 z3
      by_cases hself : nam = self4
      · rw [decide_eq_true hself] at hse
        go_upto_region 19 with (fail)
        obtain ⟨V, hV⟩ : ∃ V, V = (ow + add) % 4294967296 := ⟨_, rfl⟩
        rw [← hV]
        have HSTEP : Hid (FL (k + 1) = put4 (FL k) O V.toNat) := Lib.hid (by rw [HFSk.out]; unfold fillR at4; simp only [hself, if_true, if_false]; rw [← hV]; rfl)
        have hV0 : 0 ≤ V := by omega
        have hV1 : V < 4294967296 := by omega
        have HP0 : Hid (BM w6 gb G (part4 (FL k) O V.toNat 0)) := Lib.hid (by rw [part4_zero]; exact HM1.out)
        have HLk : Hid (O + 4 ≤ (FL k).length) := Lib.hid (by rw [HFN.out]; omega)
        clear hV hse hself HFSk HM1 z1 z2 z3
        go_wp2_with fail
        go_loopw [13] (fun i wx => ∃ q : Nat, (q : Int) ≤ 4 ∧ i = .int .i64 q ∧ Hid (BM wx gb G (part4 (FL k) O V.toNat q)) ∧ Hid (Blk wx gR 58 [.int .u32 (O : Int), .int .u8 1, .string NM, .int .u32 add]) ∧ Hid (Below w3.heap.size w3 wx)) (fun i _ => 4 - (intOf i).toNat)
        case atStart => exact ⟨0, by omega, rfl, HP0, HR1, HB2⟩
        case round =>
          obtain ⟨q, hq, rfl, hM, hR, hB⟩ := hrel
          have hq5 : q = 0 ∨ q = 1 ∨ q = 2 ∨ q = 3 ∨ q = 4 := by omega
          have z0 := hR.out.cell 0
          simp only [List.getElem?_cons_zero] at z0
          rcases hq5 with rfl | rfl | rfl | rfl | rfl
          · have hJ1 : (O : Int) < 8 * (l.length : Int) := by omega
            have hJ0 : (0 : Int) ≤ (O : Int) := by omega
            have hJ3 : O < (part4 (FL k) O V.toNat 0).length := by rw [part4_length _ _ _ _ (by omega) HLk.out]; have := HLk.out; omega
            have y0 := hM.out.cell O hJ3
            have f0 := hM.out.frozen O hJ3
            have l0 := hM.out.lt
            have HM3 : Hid (BM (wr.setCell ⟨gb, O, none⟩ (.int .u8 (V % 256))) gb G (part4 (FL k) O V.toNat (0 + 1))) := Lib.hid (by
              have h := hM.out.set (O + 0) hJ3 ((I.Wd.le V.toNat 4).getD 0 0)
              rw [le_b0 hV0 hV1] at h
              rw [part4_step _ _ _ _ (by omega) HLk.out] at h
              exact h)
            have HR3 := Lib.hid (hR.out.far (p := ⟨gb, O, none⟩) (fun e => HGR.out e.symm) (.int .u8 (V % 256)))
            have HB3 := Lib.hid (below_set hB.out HGB.out O (.int .u8 (V % 256)))
            unfold byV at y0
            clear hJ3 hM hR hB
            go_wp2_with fail
            go_roundw
            case rel => exact ⟨0 + 1, by omega, by go_num, HM3, HR3, HB3⟩
            case measure => simp [intOf]
          · obtain ⟨J, hJ⟩ : ∃ J : Nat, J = O + 1 := ⟨_, rfl⟩
            have hJI : (O : Int) + 1 = (J : Int) := by omega
            have hJ1 : (J : Int) < 8 * (l.length : Int) := by omega
            have hJ0 : (0 : Int) ≤ (J : Int) := by omega
            have hJ3 : J < (part4 (FL k) O V.toNat 1).length := by rw [part4_length _ _ _ _ (by omega) HLk.out]; have := HLk.out; omega
            have y0 := hM.out.cell J hJ3
            have f0 := hM.out.frozen J hJ3
            have l0 := hM.out.lt
            have HM3 : Hid (BM (wr.setCell ⟨gb, J, none⟩ (.int .u8 (V / 256 % 256))) gb G (part4 (FL k) O V.toNat (1 + 1))) := Lib.hid (by
              have h := hM.out.set J hJ3 ((I.Wd.le V.toNat 4).getD 1 0)
              rw [le_b1 hV0 hV1] at h
              rw [hJ] at h ⊢
              rw [part4_step _ _ _ _ (by omega) HLk.out] at h
              exact h)
            have HR3 := Lib.hid (hR.out.far (p := ⟨gb, J, none⟩) (fun e => HGR.out e.symm) (.int .u8 (V / 256 % 256)))
            have HB3 := Lib.hid (below_set hB.out HGB.out J (.int .u8 (V / 256 % 256)))
            unfold byV at y0
            clear hJ3 hJ hM hR hB
            go_wp2_with fail
            go_roundw
            case rel => exact ⟨1 + 1, by omega, by go_num, HM3, HR3, HB3⟩
            case measure => simp [intOf]
          · obtain ⟨J, hJ⟩ : ∃ J : Nat, J = O + 2 := ⟨_, rfl⟩
            have hJI : (O : Int) + 2 = (J : Int) := by omega
            have hJ1 : (J : Int) < 8 * (l.length : Int) := by omega
            have hJ0 : (0 : Int) ≤ (J : Int) := by omega
            have hJ3 : J < (part4 (FL k) O V.toNat 2).length := by rw [part4_length _ _ _ _ (by omega) HLk.out]; have := HLk.out; omega
            have y0 := hM.out.cell J hJ3
            have f0 := hM.out.frozen J hJ3
            have l0 := hM.out.lt
            have HM3 : Hid (BM (wr.setCell ⟨gb, J, none⟩ (.int .u8 (V / 65536 % 256))) gb G (part4 (FL k) O V.toNat (2 + 1))) := Lib.hid (by
              have h := hM.out.set J hJ3 ((I.Wd.le V.toNat 4).getD 2 0)
              rw [le_b2 hV0 hV1] at h
              rw [hJ] at h ⊢
              rw [part4_step _ _ _ _ (by omega) HLk.out] at h
              exact h)
            have HR3 := Lib.hid (hR.out.far (p := ⟨gb, J, none⟩) (fun e => HGR.out e.symm) (.int .u8 (V / 65536 % 256)))
            have HB3 := Lib.hid (below_set hB.out HGB.out J (.int .u8 (V / 65536 % 256)))
            unfold byV at y0
            clear hJ3 hJ hM hR hB
            go_wp2_with fail
            go_roundw
            case rel => exact ⟨2 + 1, by omega, by go_num, HM3, HR3, HB3⟩
            case measure => simp [intOf]
          · obtain ⟨J, hJ⟩ : ∃ J : Nat, J = O + 3 := ⟨_, rfl⟩
            have hJI : (O : Int) + 3 = (J : Int) := by omega
            have hJ1 : (J : Int) < 8 * (l.length : Int) := by omega
            have hJ0 : (0 : Int) ≤ (J : Int) := by omega
            have hJ3 : J < (part4 (FL k) O V.toNat 3).length := by rw [part4_length _ _ _ _ (by omega) HLk.out]; have := HLk.out; omega
            have y0 := hM.out.cell J hJ3
            have f0 := hM.out.frozen J hJ3
            have l0 := hM.out.lt
            have HM3 : Hid (BM (wr.setCell ⟨gb, J, none⟩ (.int .u8 (V / 16777216))) gb G (part4 (FL k) O V.toNat (3 + 1))) := Lib.hid (by
              have h := hM.out.set J hJ3 ((I.Wd.le V.toNat 4).getD 3 0)
              rw [le_b3 hV0 hV1] at h
              rw [hJ] at h ⊢
              rw [part4_step _ _ _ _ (by omega) HLk.out] at h
              exact h)
            have HR3 := Lib.hid (hR.out.far (p := ⟨gb, J, none⟩) (fun e => HGR.out e.symm) (.int .u8 (V / 16777216)))
            have HB3 := Lib.hid (below_set hB.out HGB.out J (.int .u8 (V / 16777216)))
            unfold byV at y0
            clear hJ3 hJ hM hR hB
            go_wp2_with fail
            go_roundw
            case rel => exact ⟨3 + 1, by omega, by go_num, HM3, HR3, HB3⟩
            case measure => simp [intOf]
          · have HM5 : Hid (BM wr gb G (FL (k + 1))) := Lib.hid (by rw [HSTEP.out, ← part4_four]; exact hM.out)
            clear hM hR z0 HSTEP HLk
            go_wp2_with fail
            go_roundw
            case rel => exact ⟨k + 1, by omega, by go_num, HM5, hB⟩
            case measure => simp [intOf]; omega
      · rw [decide_eq_false hself] at hse
        go_upto_region 19 with (fail)
        obtain ⟨V, hV⟩ : ∃ V, V = (ot + add) % 4294967296 := ⟨_, rfl⟩
        rw [← hV]
        have HSTEP : Hid (FL (k + 1) = put4 (FL k) O V.toNat) := Lib.hid (by rw [HFSk.out]; unfold fillR at4; simp only [hself, if_true, if_false]; rw [← hV]; rfl)
        have hV0 : 0 ≤ V := by omega
        have hV1 : V < 4294967296 := by omega
        have HP0 : Hid (BM w6 gb G (part4 (FL k) O V.toNat 0)) := Lib.hid (by rw [part4_zero]; exact HM1.out)
        have HLk : Hid (O + 4 ≤ (FL k).length) := Lib.hid (by rw [HFN.out]; omega)
        clear hV hse hself HFSk HM1 z1 z2 z3
        go_wp2_with fail
        go_loopw [13] (fun i wx => ∃ q : Nat, (q : Int) ≤ 4 ∧ i = .int .i64 q ∧ Hid (BM wx gb G (part4 (FL k) O V.toNat q)) ∧ Hid (Blk wx gR 58 [.int .u32 (O : Int), .int .u8 1, .string NM, .int .u32 add]) ∧ Hid (Below w3.heap.size w3 wx)) (fun i _ => 4 - (intOf i).toNat)
        case atStart => exact ⟨0, by omega, rfl, HP0, HR1, HB2⟩
        case round =>
          obtain ⟨q, hq, rfl, hM, hR, hB⟩ := hrel
          have hq5 : q = 0 ∨ q = 1 ∨ q = 2 ∨ q = 3 ∨ q = 4 := by omega
          have z0 := hR.out.cell 0
          simp only [List.getElem?_cons_zero] at z0
          rcases hq5 with rfl | rfl | rfl | rfl | rfl
          · have hJ1 : (O : Int) < 8 * (l.length : Int) := by omega
            have hJ0 : (0 : Int) ≤ (O : Int) := by omega
            have hJ3 : O < (part4 (FL k) O V.toNat 0).length := by rw [part4_length _ _ _ _ (by omega) HLk.out]; have := HLk.out; omega
            have y0 := hM.out.cell O hJ3
            have f0 := hM.out.frozen O hJ3
            have l0 := hM.out.lt
            have HM3 : Hid (BM (wr.setCell ⟨gb, O, none⟩ (.int .u8 (V % 256))) gb G (part4 (FL k) O V.toNat (0 + 1))) := Lib.hid (by
              have h := hM.out.set (O + 0) hJ3 ((I.Wd.le V.toNat 4).getD 0 0)
              rw [le_b0 hV0 hV1] at h
              rw [part4_step _ _ _ _ (by omega) HLk.out] at h
              exact h)
            have HR3 := Lib.hid (hR.out.far (p := ⟨gb, O, none⟩) (fun e => HGR.out e.symm) (.int .u8 (V % 256)))
            have HB3 := Lib.hid (below_set hB.out HGB.out O (.int .u8 (V % 256)))
            unfold byV at y0
            clear hJ3 hM hR hB
            go_wp2_with fail
            go_roundw
            case rel => exact ⟨0 + 1, by omega, by go_num, HM3, HR3, HB3⟩
            case measure => simp [intOf]
          · obtain ⟨J, hJ⟩ : ∃ J : Nat, J = O + 1 := ⟨_, rfl⟩
            have hJI : (O : Int) + 1 = (J : Int) := by omega
            have hJ1 : (J : Int) < 8 * (l.length : Int) := by omega
            have hJ0 : (0 : Int) ≤ (J : Int) := by omega
            have hJ3 : J < (part4 (FL k) O V.toNat 1).length := by rw [part4_length _ _ _ _ (by omega) HLk.out]; have := HLk.out; omega
            have y0 := hM.out.cell J hJ3
            have f0 := hM.out.frozen J hJ3
            have l0 := hM.out.lt
            have HM3 : Hid (BM (wr.setCell ⟨gb, J, none⟩ (.int .u8 (V / 256 % 256))) gb G (part4 (FL k) O V.toNat (1 + 1))) := Lib.hid (by
              have h := hM.out.set J hJ3 ((I.Wd.le V.toNat 4).getD 1 0)
              rw [le_b1 hV0 hV1] at h
              rw [hJ] at h ⊢
              rw [part4_step _ _ _ _ (by omega) HLk.out] at h
              exact h)
            have HR3 := Lib.hid (hR.out.far (p := ⟨gb, J, none⟩) (fun e => HGR.out e.symm) (.int .u8 (V / 256 % 256)))
            have HB3 := Lib.hid (below_set hB.out HGB.out J (.int .u8 (V / 256 % 256)))
            unfold byV at y0
            clear hJ3 hJ hM hR hB
            go_wp2_with fail
            go_roundw
            case rel => exact ⟨1 + 1, by omega, by go_num, HM3, HR3, HB3⟩
            case measure => simp [intOf]
          · obtain ⟨J, hJ⟩ : ∃ J : Nat, J = O + 2 := ⟨_, rfl⟩
            have hJI : (O : Int) + 2 = (J : Int) := by omega
            have hJ1 : (J : Int) < 8 * (l.length : Int) := by omega
            have hJ0 : (0 : Int) ≤ (J : Int) := by omega
            have hJ3 : J < (part4 (FL k) O V.toNat 2).length := by rw [part4_length _ _ _ _ (by omega) HLk.out]; have := HLk.out; omega
            have y0 := hM.out.cell J hJ3
            have f0 := hM.out.frozen J hJ3
            have l0 := hM.out.lt
            have HM3 : Hid (BM (wr.setCell ⟨gb, J, none⟩ (.int .u8 (V / 65536 % 256))) gb G (part4 (FL k) O V.toNat (2 + 1))) := Lib.hid (by
              have h := hM.out.set J hJ3 ((I.Wd.le V.toNat 4).getD 2 0)
              rw [le_b2 hV0 hV1] at h
              rw [hJ] at h ⊢
              rw [part4_step _ _ _ _ (by omega) HLk.out] at h
              exact h)
            have HR3 := Lib.hid (hR.out.far (p := ⟨gb, J, none⟩) (fun e => HGR.out e.symm) (.int .u8 (V / 65536 % 256)))
            have HB3 := Lib.hid (below_set hB.out HGB.out J (.int .u8 (V / 65536 % 256)))
            unfold byV at y0
            clear hJ3 hJ hM hR hB
            go_wp2_with fail
            go_roundw
            case rel => exact ⟨2 + 1, by omega, by go_num, HM3, HR3, HB3⟩
            case measure => simp [intOf]
          · obtain ⟨J, hJ⟩ : ∃ J : Nat, J = O + 3 := ⟨_, rfl⟩
            have hJI : (O : Int) + 3 = (J : Int) := by omega
            have hJ1 : (J : Int) < 8 * (l.length : Int) := by omega
            have hJ0 : (0 : Int) ≤ (J : Int) := by omega
            have hJ3 : J < (part4 (FL k) O V.toNat 3).length := by rw [part4_length _ _ _ _ (by omega) HLk.out]; have := HLk.out; omega
            have y0 := hM.out.cell J hJ3
            have f0 := hM.out.frozen J hJ3
            have l0 := hM.out.lt
            have HM3 : Hid (BM (wr.setCell ⟨gb, J, none⟩ (.int .u8 (V / 16777216))) gb G (part4 (FL k) O V.toNat (3 + 1))) := Lib.hid (by
              have h := hM.out.set J hJ3 ((I.Wd.le V.toNat 4).getD 3 0)
              rw [le_b3 hV0 hV1] at h
              rw [hJ] at h ⊢
              rw [part4_step _ _ _ _ (by omega) HLk.out] at h
              exact h)
            have HR3 := Lib.hid (hR.out.far (p := ⟨gb, J, none⟩) (fun e => HGR.out e.symm) (.int .u8 (V / 16777216)))
            have HB3 := Lib.hid (below_set hB.out HGB.out J (.int .u8 (V / 16777216)))
            unfold byV at y0
            clear hJ3 hJ hM hR hB
            go_wp2_with fail
            go_roundw
            case rel => exact ⟨3 + 1, by omega, by go_num, HM3, HR3, HB3⟩
            case measure => simp [intOf]
          · have HM5 : Hid (BM wr gb G (FL (k + 1))) := Lib.hid (by rw [HSTEP.out, ← part4_four]; exact hM.out)
            clear hM hR z0 HSTEP HLk
            go_wp2_with fail
            go_roundw
            case rel => exact ⟨k + 1, by omega, by go_num, HM5, hB⟩
            case measure => simp [intOf]; omega
    · obtain rfl : k = nr := by omega
      have HFIL : Hid (∀ i, i < l.length → ((FL k).drop (8 * i)).take 8 = wantB self4 ow ot l (l.getD i Ln.nought)) := Lib.hid (fun i hi => by rw [HALL.out]; exact filled_at self4 ow ot l HZ.out.2.1 i hi)
      have HFk := HFN.out k
      obtain ⟨FF, hFF⟩ : ∃ t, t = FL k := ⟨_, rfl⟩
      rw [← hFF] at HFIL HFk hM
      have HFL8 := Lib.hid HFk
      have hGG : 8 * (l.length : Int) ≤ (G : Int) := by have := hM.out.le; omega
      have HLI : Hid (∀ i, i < l.length → ∃ gl o, al = some ⟨gl, o, none⟩ ∧ gl < w3.heap.size ∧ LieC w3 gl (o + i * 8) (lnCells (l.getD i Ln.nought))) := Lib.hid (fun i hi => by
        obtain ⟨a', c', he, h2⟩ := SlC.below HLT.out.1 B3.out (Nat.le_refl _)
        injection he with e1 e2 e3
        subst e1
        obtain ⟨gl, o, h3, h4, h5⟩ := h2 (by omega)
        exact ⟨gl, o, h3, h4, h5 i hi⟩)
      have HDE : Hid (∀ i, i < l.length → ∀ W', Below w3.heap.size w3 W' → Calls Tryd.prog 31 #[.string (tx (wantB self4 ow ot l (l.getD i Ln.nought)))] W' fun e w' => e = .returned (.tuple #[inV (l.getD i Ln.nought).op (l.getD i Ln.nought).d (l.getD i Ln.nought).a (l.getD i Ln.nought).b (wantI self4 ow ot l (l.getD i Ln.nought)), .int .i64 0]) ∧ Below W'.heap.size W' w') := Lib.hid (fun i hi W' hW => by
        obtain ⟨d1, d2⟩ := want_dec self4 ow ot l _ (HLT.out.2.1.2 i hi) (HZ.out.2.1 i hi)
        have h := I.idecode_any (tx (wantB self4 ow ot l (l.getD i Ln.nought))) W' (HLT.out.2.2.below (below_call B3.out hW))
        rw [d1, d2] at h
        exact h)
      have HX3' := X3
      clear hlt hk hFF HFk HRX HRF HRL HFS HFN HALL HF0 HSV HLB HBY P5 HSZ
      go_wp2_with fail
      go_loopw [14] (fun t wx => ∃ i : Nat, (i : Int) ≤ (l.length : Int) ∧ t = .int .i64 i ∧ Hid (BM wx gb G FF) ∧ Hid (Below w3.heap.size w3 wx)) (fun t _ => l.length - (intOf t).toNat)
      case atStart => exact ⟨0, by omega, rfl, hM, hB⟩
      case round =>
        obtain ⟨i, hi, rfl, hM, hB⟩ := hrel
        by_cases hlt : i < l.length
        · obtain ⟨gl, o, rfl, hgl, hcx⟩ := HLI.out i hlt
          have HDx := Lib.hid (HDE.out i hlt)
          have ht8 := hM.out.text8 i (by rw [HFL8.out]; omega) (G - 8 * i)
          rw [HFIL.out i hlt] at ht8
          obtain ⟨J, hJ⟩ : ∃ J : Nat, J = 8 * i := ⟨_, rfl⟩
          rw [← hJ] at ht8
          have hJI : 8 * (i : Int) = (J : Int) := by omega
          have hJ8 : (J : Int) + 8 ≤ (G : Int) := by omega
          have hJn : ¬ (J : Int) = (G : Int) := by omega
          have hdi : decide (i < l.length) = true := decide_eq_true hlt
          have HFl := (HLT.out.2.1.2 i hlt).2.2.2.2.2.1
          have HOKi := HZ.out.2.1 i hlt
          have HTOi := HZ.out.2.2.2.1 i hlt
          have HWI : Hid (wantI self4 ow ot l (l.getD i Ln.nought) = wantI self4 ow ot l (l.getD i Ln.nought)) := Lib.hid rfl
          obtain ⟨x, hx⟩ : ∃ x, x = l.getD i Ln.nought := ⟨_, rfl⟩
          rw [← hx] at hcx HDx ht8 HFl HOKi HWI
          obtain ⟨WI, hWI⟩ : ∃ t, t = wantI self4 ow ot l x := ⟨_, rfl⟩
          rw [← hWI] at HDx
          obtain ⟨SB, hSB⟩ : ∃ t, t = tx (wantB self4 ow ot l x) := ⟨_, rfl⟩
          rw [← hSB] at HDx ht8
          have HWx := Lib.hid hWI
          obtain ⟨lb, op, d, a, b, im, dst, nam⟩ := x
          unfold lnCells at hcx
          unfold inV at HDx
          simp only at hcx HDx HFl
          have he1 := empty_eq (tx nam)
          have he2 := str_eq (tx nam) (tx self4)
          have he3 := empty_eq (tx dst)
          rw [by_tx] at he1 he3
          rw [by_tx, by_tx, show (tx self4).toList = [115, 101, 108, 102] by rw [ByteArray.toList_eq]; rfl] at he2
          obtain ⟨LB, hLB⟩ : ∃ L, L = tx lb := ⟨_, rfl⟩
          obtain ⟨TO, hTO⟩ : ∃ L, L = tx dst := ⟨_, rfl⟩
          obtain ⟨NM, hNM⟩ : ∃ L, L = tx nam := ⟨_, rfl⟩
          rw [← hLB, ← hTO, ← hNM] at hcx
          rw [← hNM] at he1 he2
          rw [← hTO] at he3
          have HCX := Lib.hid hcx
          have HHX := Lib.hid hx
          have HTL := Lib.hid hTO
          clear hcx hx hWI hSB hLB hTO hNM HWI hJ
          go_wp2_with fail
          refine (HDx.out _ hB.out).mono ?_; rintro e w6 ⟨rfl, q⟩
          have HM6 := Lib.hid (hM.out.below q)
          have HB6 := Lib.hid (below_call hB.out q)
          clear q hM hB HDx ht8
          have hnb := below_new1 w6 (.cells #[.int .u8 op, .int .u8 d, .int .u8 a, .int .u8 b, .int .u32 WI] 40)
          have HX7 := Lib.hid (Blk.new w6 40 [.int .u8 op, .int .u8 d, .int .u8 a, .int .u8 b, .int .u32 WI])
          have HM7 := Lib.hid (HM6.out.below hnb)
          have HB7 := Lib.hid (below_call HB6.out hnb)
          clear hnb HM6 HB6
          go_upto_region 27 with (fail)
          obtain ⟨gx, hgx⟩ : ∃ t, t = w6.heap.size := ⟨_, rfl⟩
          obtain ⟨w7, hw7⟩ : ∃ t, t = w6.alloc (.cells #[.int .u8 op, .int .u8 d, .int .u8 a, .int .u8 b, .int .u32 WI] 40) := ⟨_, rfl⟩
          rw [← hw7] at HX7 HM7 HB7 ⊢
          rw [← hgx] at HX7 ⊢
          clear hw7 hgx
          have y0 := (HB7.out.cell (p := ⟨gl, o + i * 8 + 0, none⟩) hgl).trans (HCX.out 0 _ rfl)
          have y1 := (HB7.out.cell (p := ⟨gl, o + i * 8 + 1, none⟩) hgl).trans (HCX.out 1 _ rfl)
          have y2 := (HB7.out.cell (p := ⟨gl, o + i * 8 + 2, none⟩) hgl).trans (HCX.out 2 _ rfl)
          have y3 := (HB7.out.cell (p := ⟨gl, o + i * 8 + 3, none⟩) hgl).trans (HCX.out 3 _ rfl)
          have y4 := (HB7.out.cell (p := ⟨gl, o + i * 8 + 4, none⟩) hgl).trans (HCX.out 4 _ rfl)
          have y5 := (HB7.out.cell (p := ⟨gl, o + i * 8 + 5, none⟩) hgl).trans (HCX.out 5 _ rfl)
          have hnb := below_new1 w7 (.cells #[.int .u8 op, .int .u8 d, .int .u8 a, .int .u8 b, .int .u32 im] 40)
          have HV8 := Lib.hid (Blk.new w7 40 [.int .u8 op, .int .u8 d, .int .u8 a, .int .u8 b, .int .u32 im])
          have HX8 := Lib.hid (HX7.out.call hnb)
          have HNX : Hid (gx ≠ w7.heap.size) := Lib.hid (Nat.ne_of_lt HX7.out.lt)
          have HNB : Hid (gb ≠ w7.heap.size) := Lib.hid (Nat.ne_of_lt HM7.out.lt)
          have HNW : Hid (w3.heap.size ≤ w7.heap.size) := Lib.hid HB7.out.size
          have HM8 := Lib.hid (HM7.out.below hnb)
          have HB8 := Lib.hid (below_call HB7.out hnb)
          clear hnb HX7 HM7 HB7
          go_upto_region 28 with (fail)
          obtain ⟨gv, hgv⟩ : ∃ t, t = w7.heap.size := ⟨_, rfl⟩
          obtain ⟨w8, hw8⟩ : ∃ t, t = w7.alloc (.cells #[.int .u8 op, .int .u8 d, .int .u8 a, .int .u8 b, .int .u32 im] 40) := ⟨_, rfl⟩
          rw [← hw8] at HV8 HX8 HM8 HB8 ⊢
          rw [← hgv] at HV8 HNX HNB HNW ⊢
          clear hw8 hgv y0 y1 y2 y3 y4 y5
          have z0 := (HB8.out.cell (p := ⟨gl, o + i * 8 + 0, none⟩) hgl).trans (HCX.out 0 _ rfl)
          have z5 := (HB8.out.cell (p := ⟨gl, o + i * 8 + 5, none⟩) hgl).trans (HCX.out 5 _ rfl)
          have z6 := (HB8.out.cell (p := ⟨gl, o + i * 8 + 6, none⟩) hgl).trans (HCX.out 6 _ rfl)
          have z7 := (HB8.out.cell (p := ⟨gl, o + i * 8 + 7, none⟩) hgl).trans (HCX.out 7 _ rfl)
          rw [Nat.add_zero] at z0
          by_cases hn : nam = []
          · rw [decide_eq_true hn] at he1
            by_cases ht : dst = []
            · have hWI : WI = im := by rw [HWx.out]; unfold wantI; simp [hn, ht]
              rw [decide_eq_true ht] at he3
              have HM9 := HM8
              have HB9 := HB8
              have HX9 := HX8
              have HV9 : Hid (Blk w8 gv 40 [.int .u8 op, .int .u8 d, .int .u8 a, .int .u8 b, .int .u32 WI]) := Lib.hid (by rw [hWI]; exact HV8.out)
              clear hWI HM8 HB8 HX8 HV8 hn ht HTOi
              go_upto_region 32 with (fail)
              clear z0 z5 z6 z7
              go_wp2_with fail
              go_loopw [18] (fun t wx => ∃ q : Nat, (q : Int) ≤ (l.length : Int) ∧ t = .int .i64 q ∧ Hid (BM wx gb G FF) ∧ Hid (Blk wx gx 40 [.int .u8 op, .int .u8 d, .int .u8 a, .int .u8 b, .int .u32 WI]) ∧ Hid (Blk wx gv 40 [.int .u8 op, .int .u8 d, .int .u8 a, .int .u8 b, .int .u32 WI]) ∧ Hid (Below w3.heap.size w3 wx)) (fun t _ => l.length - (intOf t).toNat)
              case atStart => exact ⟨0, by omega, rfl, HM9, HX9, HV9, HB9⟩
              case round =>
                obtain ⟨q, hq, rfl, hM, hX, hV, hB⟩ := hrel
                have z6 := (hB.out.cell (p := ⟨gl, o + i * 8 + 6, none⟩) hgl).trans (HCX.out 6 _ rfl)
                by_cases hlt2 : q < l.length
                · have hdq : decide (q < l.length) = true := decide_eq_true hlt2
                  go_upto_region 35 with (fail)
                  go_quiet (fail)
                  have M1 := Lib.hid (hM.out.below (below_drewN wr nq))
                  have X1 := Lib.hid (hX.out.call (below_drewN wr nq))
                  have V1 := Lib.hid (hV.out.call (below_drewN wr nq))
                  have B1' := Lib.hid (below_call hB.out (below_drewN wr nq))
                  clear hM hX hV hB z6
                  go_wp2_with fail
                  go_roundw
                  case rel => exact ⟨q + 1, by omega, by go_num, M1, X1, V1, B1'⟩
                  case measure => simp [intOf]; omega
                · obtain rfl : q = l.length := by omega
                  obtain ⟨p0, p1, p2, p3, p4⟩ := hX.out.fiveC
                  obtain ⟨r0, r1, r2, r3, r4⟩ := hV.out.fiveC
                  clear z6 hlt2
                  go_wp2_with fail
                  go_roundw
                  case rel => exact ⟨i + 1, by omega, by go_num, hM, hB⟩
                  case measure => simp [intOf]; omega
            · rw [decide_eq_false ht] at he3
              have hto : (l.getD i Ln.nought).to = dst := by rw [← HHX.out]
              have htk := HTOi
              unfold toOk at htk
              rw [hto, decide_eq_false ht, Bool.false_or] at htk
              obtain ⟨idx, hidx⟩ := Option.isSome_iff_exists.1 htk
              have HWI : Hid ((ow + 8 * (idx : Int)) % 4294967296 = WI) := Lib.hid (by rw [HWx.out]; unfold wantI; simp [hn, ht, hidx])
              have HIX : Hid (idx < l.length) := Lib.hid (findL_some hidx).1
              have HLBL : Hid (∀ q, q < l.length → ((l.getD q Ln.nought).label = dst ↔ q = idx)) := Lib.hid (fun q hq => ⟨fun e => by
                  have h := lbl_one HZ.out.2.2.1 hq ht e
                  rw [hidx] at h
                  injection h with h
                  exact h.symm, fun e => by rw [e]; exact (findL_some hidx).2.1⟩)
              have HZ0 : Hid (im = if idx < 0 then WI else im) := Lib.hid (by rw [if_neg (Nat.not_lt_zero _)])
              clear hn ht HTOi hto htk hidx
              go_upto_region 32 with (fail)
              clear z0 z5 z6 z7
              go_wp2_with fail
              go_loopw [18] (fun t wx => ∃ q : Nat, (q : Int) ≤ (l.length : Int) ∧ t = .int .i64 q ∧ Hid (BM wx gb G FF) ∧ Hid (Blk wx gx 40 [.int .u8 op, .int .u8 d, .int .u8 a, .int .u8 b, .int .u32 WI]) ∧ (∃ Z, Hid (Blk wx gv 40 [.int .u8 op, .int .u8 d, .int .u8 a, .int .u8 b, .int .u32 (Z)]) ∧ Hid (Z = if idx < q then WI else im)) ∧ Hid (Below w3.heap.size w3 wx)) (fun t _ => l.length - (intOf t).toNat)
              case atStart => exact ⟨0, by omega, rfl, HM8, HX8, ⟨im, HV8, HZ0⟩, HB8⟩
              case round =>
                obtain ⟨q, hq, rfl, hM, hX, ⟨Z, hV, hZ⟩, hB⟩ := hrel
                have z6 := (hB.out.cell (p := ⟨gl, o + i * 8 + 6, none⟩) hgl).trans (HCX.out 6 _ rfl)
                by_cases hlt2 : q < l.length
                · have hdq : decide (q < l.length) = true := decide_eq_true hlt2
                  obtain ⟨gl', o', he', hg', hc'⟩ := HLI.out q hlt2
                  injection he' with he'
                  injection he' with he4 he5
                  subst he4 he5
                  have z8 := (hB.out.cell (p := ⟨gl, o + q * 8 + 0, none⟩) hgl).trans (hc' 0 _ rfl)
                  rw [Nat.add_zero] at z8
                  have hcmp := str_eq (tx (l.getD q Ln.nought).label) TO
                  rw [by_tx, HTL.out, by_tx, ← HTL.out] at hcmp
                  have hLBq := HLBL.out q hlt2
                  obtain ⟨LQ, hLQ⟩ : ∃ t, t = tx (l.getD q Ln.nought).label := ⟨_, rfl⟩
                  rw [← hLQ] at z8 hcmp
                  clear hLQ hc'
                  by_cases hqi : q = idx
                  · rw [decide_eq_true (hLBq.2 hqi)] at hcmp
                    have HZ1 : Hid ((ow + 8 * (q : Int)) % 4294967296 = if idx < q + 1 then WI else im) := Lib.hid (by rw [if_pos (by omega), hqi]; exact HWI.out)
                    clear hLBq hqi
                    go_upto_region 35 with (fail)
                    go_quiet (fail)
                    have M1 := Lib.hid (hM.out.below (below_drewN wr nq))
                    have X1 := Lib.hid (hX.out.call (below_drewN wr nq))
                    have V1 := Lib.hid (hV.out.call (below_drewN wr nq))
                    have B1' := Lib.hid (below_call hB.out (below_drewN wr nq))
                    clear hM hX hV hB z6 z8 hZ
                    obtain ⟨w9, hw9⟩ : ∃ t, t = wr.drewN nq := ⟨_, rfl⟩
                    rw [← hw9] at M1 X1 V1 B1' ⊢
                    clear hw9
                    have t4 := V1.out.cell 4
                    have u4 : w9.frozen? ⟨gv, 4, none⟩ = false := V1.out.frozen 4
                    have l4 : gv < w9.heap.size := V1.out.lt
                    simp only [List.getElem?_cons_zero, List.getElem?_cons_succ] at t4
                    have hq8 : 8 * (q : Int) < 8192 := by omega
                    have V2 : Hid (Blk (w9.setCell ⟨gv, 4, none⟩ (.int .u32 ((ow + 8 * (q : Int)) % 4294967296))) gv 40 [.int .u8 op, .int .u8 d, .int .u8 a, .int .u8 b, .int .u32 ((ow + 8 * (q : Int)) % 4294967296)]) := Lib.hid (V1.out.set_ 4 (.int .u32 ((ow + 8 * (q : Int)) % 4294967296)))
                    have X2 := Lib.hid (X1.out.far (p := ⟨gv, 4, none⟩) HNX.out (.int .u32 ((ow + 8 * (q : Int)) % 4294967296)))
                    have M2 := Lib.hid (M1.out.far (p := ⟨gv, 4, none⟩) HNB.out (.int .u32 ((ow + 8 * (q : Int)) % 4294967296)))
                    have B2' := Lib.hid (below_set B1'.out HNW.out 4 (.int .u32 ((ow + 8 * (q : Int)) % 4294967296)))
                    clear M1 X1 V1 B1'
                    go_wp2_with fail
                    go_roundw
                    case rel => exact ⟨q + 1, by omega, by go_num, M2, X2, ⟨_, V2, HZ1⟩, B2'⟩
                    case measure => simp [intOf]; omega
                  · rw [decide_eq_false (fun e => hqi (hLBq.1 e))] at hcmp
                    have HZ1 : Hid (Z = if idx < q + 1 then WI else im) := Lib.hid (by
                      rw [hZ.out]
                      by_cases h : idx < q
                      · rw [if_pos h, if_pos (by omega)]
                      · rw [if_neg h, if_neg (by omega)])
                    clear hLBq hqi
                    go_upto_region 35 with (fail)
                    go_quiet (fail)
                    have M1 := Lib.hid (hM.out.below (below_drewN wr nq))
                    have X1 := Lib.hid (hX.out.call (below_drewN wr nq))
                    have V1 := Lib.hid (hV.out.call (below_drewN wr nq))
                    have B1' := Lib.hid (below_call hB.out (below_drewN wr nq))
                    clear hM hX hV hB z6 z8 hZ
                    go_wp2_with fail
                    go_roundw
                    case rel => exact ⟨q + 1, by omega, by go_num, M1, X1, ⟨Z, V1, HZ1⟩, B1'⟩
                    case measure => simp [intOf]; omega
                · obtain rfl : q = l.length := by omega
                  have hZW : Z = WI := by rw [hZ.out, if_pos HIX.out]
                  subst hZW
                  obtain ⟨p0, p1, p2, p3, p4⟩ := hX.out.fiveC
                  obtain ⟨r0, r1, r2, r3, r4⟩ := hV.out.fiveC
                  clear z6 hlt2 hZ
                  go_wp2_with fail
                  go_roundw
                  case rel => exact ⟨i + 1, by omega, by go_num, hM, hB⟩
                  case measure => simp [intOf]; omega
          · rw [decide_eq_false hn] at he1
            have ht : dst = [] := by
              by_cases h : dst = []
              · exact h
              · exact absurd ⟨h, hn⟩ (both_not HOKi)
            rw [decide_eq_true ht] at he3
            by_cases hs : nam = self4
            · rw [decide_eq_true hs] at he2
              have hWI : (ow + im) % 4294967296 = WI := by rw [HWx.out]; unfold wantI; simp only [hn, hs, ne_eq, not_false_eq_true, if_true]; rw [if_pos (by decide)]
              have HWI := Lib.hid hWI
              clear hWI hn ht hs HTOi
              have t4 := HV8.out.cell 4
              have u4 : w8.frozen? ⟨gv, 4, none⟩ = false := HV8.out.frozen 4
              have l4 : gv < w8.heap.size := HV8.out.lt
              simp only [List.getElem?_cons_zero, List.getElem?_cons_succ] at t4
              have HV9 : Hid (Blk (w8.setCell ⟨gv, 4, none⟩ (.int .u32 ((ot + im) % 4294967296))) gv 40 [.int .u8 op, .int .u8 d, .int .u8 a, .int .u8 b, .int .u32 ((ot + im) % 4294967296)]) := Lib.hid (HV8.out.set_ 4 (.int .u32 ((ot + im) % 4294967296)))
              have HX9 := Lib.hid (HX8.out.far (p := ⟨gv, 4, none⟩) HNX.out (.int .u32 ((ot + im) % 4294967296)))
              have HM9 := Lib.hid (HM8.out.far (p := ⟨gv, 4, none⟩) HNB.out (.int .u32 ((ot + im) % 4294967296)))
              have HB9 := Lib.hid (below_set HB8.out HNW.out 4 (.int .u32 ((ot + im) % 4294967296)))
              go_upto_region 30 with (fail)
              obtain ⟨w9, hw9⟩ : ∃ t, t = w8.setCell ⟨gv, 4, none⟩ (.int .u32 ((ot + im) % 4294967296)) := ⟨_, rfl⟩
              rw [← hw9] at HV9 HX9 HM9 HB9 ⊢
              clear hw9 t4 u4 l4 z0 z5 z6 z7 HV8 HX8 HM8 HB8
              have z0 := (HB9.out.cell (p := ⟨gl, o + i * 8 + 0, none⟩) hgl).trans (HCX.out 0 _ rfl)
              have z5 := (HB9.out.cell (p := ⟨gl, o + i * 8 + 5, none⟩) hgl).trans (HCX.out 5 _ rfl)
              have z6 := (HB9.out.cell (p := ⟨gl, o + i * 8 + 6, none⟩) hgl).trans (HCX.out 6 _ rfl)
              have z7 := (HB9.out.cell (p := ⟨gl, o + i * 8 + 7, none⟩) hgl).trans (HCX.out 7 _ rfl)
              rw [Nat.add_zero] at z0
              have t4 := HV9.out.cell 4
              have u4 : w9.frozen? ⟨gv, 4, none⟩ = false := HV9.out.frozen 4
              have l4 : gv < w9.heap.size := HV9.out.lt
              simp only [List.getElem?_cons_zero, List.getElem?_cons_succ] at t4
              have HV10 : Hid (Blk (w9.setCell ⟨gv, 4, none⟩ (.int .u32 ((ow + im) % 4294967296))) gv 40 [.int .u8 op, .int .u8 d, .int .u8 a, .int .u8 b, .int .u32 ((ow + im) % 4294967296)]) := Lib.hid (HV9.out.set_ 4 (.int .u32 ((ow + im) % 4294967296)))
              have HX10 := Lib.hid (HX9.out.far (p := ⟨gv, 4, none⟩) HNX.out (.int .u32 ((ow + im) % 4294967296)))
              have HM10 := Lib.hid (HM9.out.far (p := ⟨gv, 4, none⟩) HNB.out (.int .u32 ((ow + im) % 4294967296)))
              have HB10 := Lib.hid (below_set HB9.out HNW.out 4 (.int .u32 ((ow + im) % 4294967296)))
              go_upto_region 32 with (fail)
              obtain ⟨w10, hw10⟩ : ∃ t, t = w9.setCell ⟨gv, 4, none⟩ (.int .u32 ((ow + im) % 4294967296)) := ⟨_, rfl⟩
              rw [← hw10] at HV10 HX10 HM10 HB10 ⊢
              clear hw10 t4 u4 l4 z0 z5 z6 z7 HV9 HX9 HM9 HB9
              have z0 := (HB10.out.cell (p := ⟨gl, o + i * 8 + 0, none⟩) hgl).trans (HCX.out 0 _ rfl)
              have z5 := (HB10.out.cell (p := ⟨gl, o + i * 8 + 5, none⟩) hgl).trans (HCX.out 5 _ rfl)
              have z6 := (HB10.out.cell (p := ⟨gl, o + i * 8 + 6, none⟩) hgl).trans (HCX.out 6 _ rfl)
              have z7 := (HB10.out.cell (p := ⟨gl, o + i * 8 + 7, none⟩) hgl).trans (HCX.out 7 _ rfl)
              rw [Nat.add_zero] at z0
              rw [HWI.out] at HV10
              have HM9 := HM10
              have HB9 := HB10
              have HX9 := HX10
              have HV9 := HV10
              clear z0 z5 z6 z7
              go_wp2_with fail
              go_loopw [18] (fun t wx => ∃ q : Nat, (q : Int) ≤ (l.length : Int) ∧ t = .int .i64 q ∧ Hid (BM wx gb G FF) ∧ Hid (Blk wx gx 40 [.int .u8 op, .int .u8 d, .int .u8 a, .int .u8 b, .int .u32 WI]) ∧ Hid (Blk wx gv 40 [.int .u8 op, .int .u8 d, .int .u8 a, .int .u8 b, .int .u32 WI]) ∧ Hid (Below w3.heap.size w3 wx)) (fun t _ => l.length - (intOf t).toNat)
              case atStart => exact ⟨0, by omega, rfl, HM9, HX9, HV9, HB9⟩
              case round =>
                obtain ⟨q, hq, rfl, hM, hX, hV, hB⟩ := hrel
                have z6 := (hB.out.cell (p := ⟨gl, o + i * 8 + 6, none⟩) hgl).trans (HCX.out 6 _ rfl)
                by_cases hlt2 : q < l.length
                · have hdq : decide (q < l.length) = true := decide_eq_true hlt2
                  go_upto_region 35 with (fail)
                  go_quiet (fail)
                  have M1 := Lib.hid (hM.out.below (below_drewN wr nq))
                  have X1 := Lib.hid (hX.out.call (below_drewN wr nq))
                  have V1 := Lib.hid (hV.out.call (below_drewN wr nq))
                  have B1' := Lib.hid (below_call hB.out (below_drewN wr nq))
                  clear hM hX hV hB z6
                  go_wp2_with fail
                  go_roundw
                  case rel => exact ⟨q + 1, by omega, by go_num, M1, X1, V1, B1'⟩
                  case measure => simp [intOf]; omega
                · obtain rfl : q = l.length := by omega
                  obtain ⟨p0, p1, p2, p3, p4⟩ := hX.out.fiveC
                  obtain ⟨r0, r1, r2, r3, r4⟩ := hV.out.fiveC
                  clear z6 hlt2
                  go_wp2_with fail
                  go_roundw
                  case rel => exact ⟨i + 1, by omega, by go_num, hM, hB⟩
                  case measure => simp [intOf]; omega
            · rw [decide_eq_false hs] at he2
              have hWI : (ot + im) % 4294967296 = WI := by rw [HWx.out]; unfold wantI; simp only [hn, hs, ne_eq, not_false_eq_true, if_true, if_false]
              have HWI := Lib.hid hWI
              clear hWI hn ht hs HTOi
              have t4 := HV8.out.cell 4
              have u4 : w8.frozen? ⟨gv, 4, none⟩ = false := HV8.out.frozen 4
              have l4 : gv < w8.heap.size := HV8.out.lt
              simp only [List.getElem?_cons_zero, List.getElem?_cons_succ] at t4
              have HV9 : Hid (Blk (w8.setCell ⟨gv, 4, none⟩ (.int .u32 ((ot + im) % 4294967296))) gv 40 [.int .u8 op, .int .u8 d, .int .u8 a, .int .u8 b, .int .u32 ((ot + im) % 4294967296)]) := Lib.hid (HV8.out.set_ 4 (.int .u32 ((ot + im) % 4294967296)))
              have HX9 := Lib.hid (HX8.out.far (p := ⟨gv, 4, none⟩) HNX.out (.int .u32 ((ot + im) % 4294967296)))
              have HM9 := Lib.hid (HM8.out.far (p := ⟨gv, 4, none⟩) HNB.out (.int .u32 ((ot + im) % 4294967296)))
              have HB9 := Lib.hid (below_set HB8.out HNW.out 4 (.int .u32 ((ot + im) % 4294967296)))
              go_upto_region 30 with (fail)
              obtain ⟨w9, hw9⟩ : ∃ t, t = w8.setCell ⟨gv, 4, none⟩ (.int .u32 ((ot + im) % 4294967296)) := ⟨_, rfl⟩
              rw [← hw9] at HV9 HX9 HM9 HB9 ⊢
              clear hw9 t4 u4 l4 z0 z5 z6 z7 HV8 HX8 HM8 HB8
              have z0 := (HB9.out.cell (p := ⟨gl, o + i * 8 + 0, none⟩) hgl).trans (HCX.out 0 _ rfl)
              have z5 := (HB9.out.cell (p := ⟨gl, o + i * 8 + 5, none⟩) hgl).trans (HCX.out 5 _ rfl)
              have z6 := (HB9.out.cell (p := ⟨gl, o + i * 8 + 6, none⟩) hgl).trans (HCX.out 6 _ rfl)
              have z7 := (HB9.out.cell (p := ⟨gl, o + i * 8 + 7, none⟩) hgl).trans (HCX.out 7 _ rfl)
              rw [Nat.add_zero] at z0
              rw [HWI.out] at HV9
              go_upto_region 32 with (fail)
              clear z0 z5 z6 z7
              go_wp2_with fail
              go_loopw [18] (fun t wx => ∃ q : Nat, (q : Int) ≤ (l.length : Int) ∧ t = .int .i64 q ∧ Hid (BM wx gb G FF) ∧ Hid (Blk wx gx 40 [.int .u8 op, .int .u8 d, .int .u8 a, .int .u8 b, .int .u32 WI]) ∧ Hid (Blk wx gv 40 [.int .u8 op, .int .u8 d, .int .u8 a, .int .u8 b, .int .u32 WI]) ∧ Hid (Below w3.heap.size w3 wx)) (fun t _ => l.length - (intOf t).toNat)
              case atStart => exact ⟨0, by omega, rfl, HM9, HX9, HV9, HB9⟩
              case round =>
                obtain ⟨q, hq, rfl, hM, hX, hV, hB⟩ := hrel
                have z6 := (hB.out.cell (p := ⟨gl, o + i * 8 + 6, none⟩) hgl).trans (HCX.out 6 _ rfl)
                by_cases hlt2 : q < l.length
                · have hdq : decide (q < l.length) = true := decide_eq_true hlt2
                  go_upto_region 35 with (fail)
                  go_quiet (fail)
                  have M1 := Lib.hid (hM.out.below (below_drewN wr nq))
                  have X1 := Lib.hid (hX.out.call (below_drewN wr nq))
                  have V1 := Lib.hid (hV.out.call (below_drewN wr nq))
                  have B1' := Lib.hid (below_call hB.out (below_drewN wr nq))
                  clear hM hX hV hB z6
                  go_wp2_with fail
                  go_roundw
                  case rel => exact ⟨q + 1, by omega, by go_num, M1, X1, V1, B1'⟩
                  case measure => simp [intOf]; omega
                · obtain rfl : q = l.length := by omega
                  obtain ⟨p0, p1, p2, p3, p4⟩ := hX.out.fiveC
                  obtain ⟨r0, r1, r2, r3, r4⟩ := hV.out.fiveC
                  clear z6 hlt2
                  go_wp2_with fail
                  go_roundw
                  case rel => exact ⟨i + 1, by omega, by go_num, hM, hB⟩
                  case measure => simp [intOf]; omega
        · have hil : i = l.length := by omega
          subst hil
          have BF := Lib.hid (below_call B3.out hB.out)
          clear hlt
          go_wp2_with fail
          refine (HAl.out _ BF.out).mono ?_; rintro e w9 ⟨rfl, q9⟩
          have B9 := Lib.hid (below_call BF.out q9)
          clear q9
          go_wp2_with fail
          go_ret
          exact ⟨rfl, B9.out⟩
end Go.Proofs.YtlnnhgmkibjgmaaDoor
