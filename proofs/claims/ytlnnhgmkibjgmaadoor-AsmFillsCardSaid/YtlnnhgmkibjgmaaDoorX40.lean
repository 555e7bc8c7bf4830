/- The program's Make. -/
import Derived.Test.YtlnnhgmkibjgmaaDoorX38
import Derived.Test.YtlnnhgmkibjgmaaDoorX39
import Derived.Test.YtlnnhgmkibjgmaaDoorX27
set_option linter.unusedVariables false
set_option linter.unusedSimpArgs false
namespace Go.Proofs.YtlnnhgmkibjgmaaDoor
open Go Go.RowKit Go.Maps Oj Al

/-- How far the maker of Make is, behind j of its three steps. -/
def Stg (w : World) (nm : ByteArray) (bi : Int) (vn : Value) (l : List Ln) (g : Nat) : Nat → World → Prop
  | 0, wr => Blk wr g 65 [.string nm, .int .u8 bi, .int .u8 1, .int .u32 0, .string ⟨#[]⟩, .slice none 0 0, vn, .map none]
  | 1, wr => (∀ k, k < l.length → lnOk (l.getD k Ln.nought) = true) ∧ Blk wr g 65 [.string nm, .int .u8 bi, .int .u8 1, .int .u32 (8 * (l.length : Int)), .string (tx (bytesL l)), .slice none 0 0, vn, .map none]
  | 2, wr => (∀ k, k < l.length → lnOk (l.getD k Ln.nought) = true) ∧ (∀ k, k < l.length → lblOk l k = true) ∧ ∃ b n, Blk wr g 65 [.string nm, .int .u8 bi, .int .u8 1, .int .u32 (8 * (l.length : Int)), .string (tx (bytesL l)), .slice none 0 0, vn, .map (some b)] ∧ LabIs wr b n (labM l l.length)
  | _, wr => (∀ k, k < l.length → lnOk (l.getD k Ln.nought) = true) ∧ (∀ k, k < l.length → lblOk l k = true) ∧ (∀ k, k < l.length → toOk l k = true) ∧ ∃ v5 v7, Blk wr g 65 [.string nm, .int .u8 bi, .int .u8 1, .int .u32 (8 * (l.length : Int)), .string (tx (bytesL l)), v5, vn, v7] ∧ OwnR wr w.heap.size v5 (relsL (by' nm) l l.length)
structure MkS (w wr : World) (nm : ByteArray) (bi : Int) (vn : Value) (l : List Ln) (g j : Nat) : Prop where
  low : Below w.heap.size w wr
  res : Blk wr w.heap.size 29 zS
  fs : Blk wr (g + 1) 66 [.func (.func 32) #[.pointer (some ⟨g, 0, none⟩)] #[], .func (.func 33) #[.pointer (some ⟨g, 0, none⟩)] #[], .func (.func 34) #[.pointer (some ⟨g, 0, none⟩)] #[]]
  st : Stg w nm bi vn l g j wr
section
variable {w wr w' : World} {nm : ByteArray} {bi : Int} {vn : Value} {l : List Ln} {g j : Nat}
theorem allN_all {n : Nat} {p : Nat → Bool} (h : allN n p = true) : ∀ k, k < n → p k = true := fun k hk => by
  cases hp : p k
  · rw [allN_false hk hp] at h; cases h
  · rfl
/-- What is written into block g alone leaves the rest. -/
theorem MkS.to (h : MkS w wr nm bi vn l g j) (hg : wr.grownBy w' (some g)) (hw : w.heap.size < g) {j' : Nat} (hs : Stg w nm bi vn l g j' w') : MkS w w' nm bi vn l g j' :=
  ⟨h.low.grown hg h.low.size (fun k hk => by cases hk; omega), h.res.grown hg (fun e => by injection e; omega), h.fs.grown hg (fun e => by injection e; omega), hs⟩
end
set_option maxHeartbeats 16000000 in
set_option maxRecDepth 100000 in
theorem amake_any (nm : ByteArray) (bi : Int) (LN : List Nt) (vn : Value) (l : List Ln) (vl : Value) (w : World) (hnm : nm.size ≤ 140737488355328) (hbi : 0 ≤ bi ∧ bi < 256) (hN : NotesAt w vn LN) (hNb : LN.length * 12 ≤ 140737488355328) (hNf : ∀ j, j < LN.length → ntFits (LN.getD j Nt.nought)) (hL : LinesAt w vl l) (hLf : lnsFit l) (hT : I.Tabled w) :
    Calls Tryd.prog 9 #[.string nm, .int .u8 bi, vn, vl] w (MkPost w (mkE (by' nm) bi LN l) (mkS (by' nm) bi LN l)) := by
  obtain ⟨an, cn, hvn⟩ : ∃ an cn, vn = .slice an LN.length cn := by obtain ⟨a, c, h, _⟩ := id hN; exact ⟨a, c, h⟩
  obtain ⟨al, cl, hvl⟩ : ∃ al cl, vl = .slice al l.length cl := by obtain ⟨a, c, h, _⟩ := id hL; exact ⟨a, c, h⟩
  subst hvn hvl
  obtain ⟨PO, hPO⟩ : ∃ P, P = MkPost w (mkE (by' nm) bi LN l) (mkS (by' nm) bi LN l) := ⟨_, rfl⟩
  have HZ : Hid (∀ E, mkE (by' nm) bi LN l = E ∧ mkS (by' nm) bi LN l = Sy.nought → ∀ w', Below w.heap.size w w' → MkPost w (mkE (by' nm) bi LN l) (mkS (by' nm) bi LN l) (.returned (.tuple #[.agg #[.string ⟨#[]⟩, .int .u8 0, .int .u8 0, .int .u32 0, .string ⟨#[]⟩, .slice none 0 0, .slice none 0 0], .int .i64 E])) w') := Lib.hid (fun E h w' hb => ⟨_, by rw [h.1], by rw [h.2]; exact sy_zero w', hb⟩)
  have H0 : Hid (MkS w (((w.alloc (.cells #[.string ⟨#[]⟩, .int .u8 0, .int .u8 0, .int .u32 0, .string ⟨#[]⟩, .slice none 0 0, .slice none 0 0] 29)).alloc (.cells #[.string nm, .int .u8 bi, .int .u8 1, .int .u32 0, .string ⟨#[]⟩, .slice none 0 0, .slice an LN.length cn, .map none] 65)).alloc (.cells #[.func (.func 32) #[.pointer (some ⟨w.heap.size + 1, 0, none⟩)] #[], .func (.func 33) #[.pointer (some ⟨w.heap.size + 1, 0, none⟩)] #[], .func (.func 34) #[.pointer (some ⟨w.heap.size + 1, 0, none⟩)] #[]] 66)) nm bi (.slice an LN.length cn) l (w.heap.size + 1) 0) := Lib.hid ⟨below_call (below_new2 w _ _) (below_new1 _ _), ((Blk.new w 29 zS).alloc _).alloc _, by
      have h := Blk.new ((w.alloc (.cells #[.string ⟨#[]⟩, .int .u8 0, .int .u8 0, .int .u32 0, .string ⟨#[]⟩, .slice none 0 0, .slice none 0 0] 29)).alloc (.cells #[.string nm, .int .u8 bi, .int .u8 1, .int .u32 0, .string ⟨#[]⟩, .slice none 0 0, .slice an LN.length cn, .map none] 65)) 66 [.func (.func 32) #[.pointer (some ⟨w.heap.size + 1, 0, none⟩)] #[], .func (.func 33) #[.pointer (some ⟨w.heap.size + 1, 0, none⟩)] #[], .func (.func 34) #[.pointer (some ⟨w.heap.size + 1, 0, none⟩)] #[]]
      have e : ((w.alloc (.cells #[.string ⟨#[]⟩, .int .u8 0, .int .u8 0, .int .u32 0, .string ⟨#[]⟩, .slice none 0 0, .slice none 0 0] 29)).alloc (.cells #[.string nm, .int .u8 bi, .int .u8 1, .int .u32 0, .string ⟨#[]⟩, .slice none 0 0, .slice an LN.length cn, .map none] 65)).heap.size = w.heap.size + 1 + 1 := by simp
      rw [e] at h
      exact h, by
      have h := (Blk.new (w.alloc (.cells #[.string ⟨#[]⟩, .int .u8 0, .int .u8 0, .int .u32 0, .string ⟨#[]⟩, .slice none 0 0, .slice none 0 0] 29)) 65 [.string nm, .int .u8 bi, .int .u8 1, .int .u32 0, .string ⟨#[]⟩, .slice none 0 0, .slice an LN.length cn, .map none]).alloc (.cells #[.func (.func 32) #[.pointer (some ⟨w.heap.size + 1, 0, none⟩)] #[], .func (.func 33) #[.pointer (some ⟨w.heap.size + 1, 0, none⟩)] #[], .func (.func 34) #[.pointer (some ⟨w.heap.size + 1, 0, none⟩)] #[]] 66)
      have e : (w.alloc (.cells #[.string ⟨#[]⟩, .int .u8 0, .int .u8 0, .int .u32 0, .string ⟨#[]⟩, .slice none 0 0, .slice none 0 0] 29)).heap.size = w.heap.size + 1 := by simp
      rw [e] at h
      exact h⟩
  by_cases h5 : 1024 < l.length
  · have HP := Lib.hid (HZ.out 5 (mk_long h5))
    have hdl : decide ((l.length : Int) > 1024) = true := decide_eq_true (by omega)
    have HB0 := Lib.hid (below_new1 w (.cells #[.string ⟨#[]⟩, .int .u8 0, .int .u8 0, .int .u32 0, .string ⟨#[]⟩, .slice none 0 0, .slice none 0 0] 29))
    have HX0 := Lib.hid (Blk.new w 29 zS)
    clear HZ H0 hN hNb hNf hL hLf hT h5 hPO PO hnm hbi
    obtain ⟨n, hn⟩ : ∃ n, n = l.length := ⟨_, rfl⟩
    rw [← hn] at hdl ⊢
    obtain ⟨PE, hPE⟩ : ∃ P, P = mkE (by' nm) bi LN l := ⟨_, rfl⟩
    obtain ⟨PS, hPS⟩ : ∃ P, P = mkS (by' nm) bi LN l := ⟨_, rfl⟩
    rw [← hPE, ← hPS] at HP ⊢
    clear hn hPE hPS
    go_enter Tryd.func9, Tryd.ntmps9
    go_wp2_with fail
    refine bodyPost_ret (v := .tuple #[.agg #[.string ⟨#[]⟩, .int .u8 0, .int .u8 0, .int .u32 0, .string ⟨#[]⟩, .slice none 0 0, .slice none 0 0], .int .i64 5]) (res_sy_tmp Tryd.results9 _ _ w.heap.size _ _ _ _ _ _ _ _ rfl rfl HX0.out) rfl (HP.out _ HB0.out)
  · have hdl : decide ((l.length : Int) > 1024) = false := decide_eq_false (by omega)
    have hl : l.length ≤ 1024 := by omega
    have HE2 : Hid (allN l.length (fun k => lnOk (l.getD k Ln.nought)) = false → mkE (by' nm) bi LN l = 2 ∧ mkS (by' nm) bi LN l = Sy.nought) := Lib.hid (fun h => by
      have e : mkE (by' nm) bi LN l = 2 := by unfold mkE; rw [if_neg h5, if_pos h]
      exact ⟨e, by unfold mkS; rw [e, if_neg (by decide)]⟩)
    have HE9 : Hid ((∀ k, k < l.length → lnOk (l.getD k Ln.nought) = true) → allN l.length (lblOk l) = false → mkE (by' nm) bi LN l = 9 ∧ mkS (by' nm) bi LN l = Sy.nought) := Lib.hid (fun h1 h => by
      have e : mkE (by' nm) bi LN l = 9 := by unfold mkE; rw [if_neg h5, if_neg (by rw [allN_true h1]; decide), if_pos h]
      exact ⟨e, by unfold mkS; rw [e, if_neg (by decide)]⟩)
    have HE3 : Hid ((∀ k, k < l.length → lnOk (l.getD k Ln.nought) = true) → (∀ k, k < l.length → lblOk l k = true) → allN l.length (toOk l) = false → mkE (by' nm) bi LN l = 3 ∧ mkS (by' nm) bi LN l = Sy.nought) := Lib.hid (fun h1 h2 h => by
      have e : mkE (by' nm) bi LN l = 3 := by unfold mkE; rw [if_neg h5, if_neg (by rw [allN_true h1]; decide), if_neg (by rw [allN_true h2]; decide), if_pos h]
      exact ⟨e, by unfold mkS; rw [e, if_neg (by decide)]⟩)
    have HENC : Hid (∀ wr, MkS w wr nm bi (.slice an LN.length cn) l (w.heap.size + 1) 0 → Calls Tryd.prog 32 #[.pointer (some ⟨w.heap.size + 1, 0, none⟩), .slice al l.length cl] wr (EncP wr (w.heap.size + 1) l (.string nm) (.int .u8 bi) (.int .u8 1) (.slice none 0 0) (.slice an LN.length cn) (.map none))) := Lib.hid (fun wr h => encode_any l _ wr _ _ _ _ _ _ _ _ _ hl (hT.below h.low) (SlC.below hL h.low (Nat.le_refl _)) hLf h.st)
    have HLAB : Hid (∀ wr, MkS w wr nm bi (.slice an LN.length cn) l (w.heap.size + 1) 1 → Calls Tryd.prog 33 #[.pointer (some ⟨w.heap.size + 1, 0, none⟩), .slice al l.length cl] wr (LabP wr (w.heap.size + 1) l (.string nm) (.int .u8 bi) (.int .u8 1) (.int .u32 (8 * (l.length : Int))) (.string (tx (bytesL l))) (.slice none 0 0) (.slice an LN.length cn))) := Lib.hid (fun wr h => label_any l _ wr _ _ _ _ _ _ _ _ _ w h.low (Nat.le_succ _) hl hL hLf h.st.2)
    have HREF : Hid (∀ wr b n0, Below w.heap.size w wr → (∀ k, k < l.length → lnOk (l.getD k Ln.nought) = true) → Blk wr (w.heap.size + 1) 65 [.string nm, .int .u8 bi, .int .u8 1, .int .u32 (8 * (l.length : Int)), .string (tx (bytesL l)), .slice none 0 0, .slice an LN.length cn, .map (some b)] → LabIs wr b n0 (labM l l.length) → Calls Tryd.prog 34 #[.pointer (some ⟨w.heap.size + 1, 0, none⟩), .slice al l.length cl] wr (RefP wr (w.heap.size + 1) l nm (.int .u8 bi) (.int .u8 1) (.int .u32 (8 * (l.length : Int))) (.string (tx (bytesL l))) (.slice an LN.length cn) (.map (some b)))) := Lib.hid (fun wr b n0 h1 h2 h3 h4 => refer_any l _ wr _ b n0 nm _ _ _ _ _ w h1 (Nat.le_succ _) hl hL hLf h2 h3 h4)
    have hsF : syFits (symL (by' nm) bi LN l) := symL_fits hnm hbi hLf hl hNb hNf
    have HMD : Hid (∀ wr v5 v7, Below w.heap.size w wr → Blk wr w.heap.size 29 zS → Blk wr (w.heap.size + 1) 65 [.string nm, .int .u8 bi, .int .u8 1, .int .u32 (8 * (l.length : Int)), .string (tx (bytesL l)), v5, .slice an LN.length cn, v7] → OwnR wr w.heap.size v5 (relsL (by' nm) l l.length) → Calls Tryd.prog 35 #[.pointer (some ⟨w.heap.size + 1, 0, none⟩)] wr (MadP w w.heap.size (symL (by' nm) bi LN l))) := Lib.hid (fun wr v5 v7 h1 h2 h3 h4 => made_any _ nm (tx (bytesL l)) bi 1 (8 * (l.length : Int)) v5 _ v7 _ LN w wr _ _ h2 hsF (by unfold symL; rw [by_tx]) h1 (Nat.le_succ _) h3 h4 hN)
    have HALL : Hid ((∀ k, k < l.length → lnOk (l.getD k Ln.nought) = true) → (∀ k, k < l.length → lblOk l k = true) → (∀ k, k < l.length → toOk l k = true) → ∀ e w', MadP w w.heap.size (symL (by' nm) bi LN l) e w' → ∃ n0 b0 k0 s0 t0 a5 l5 c5 a6 l6 c6 E, e = .returned (.tuple #[.agg #[.string n0, .int .u8 b0, .int .u8 k0, .int .u32 s0, .string t0, .slice a5 l5 c5, .slice a6 l6 c6], .int .i64 E]) ∧ Blk w' w.heap.size 29 zS ∧ ∀ w2, w'.grownBy w2 (some w.heap.size) → MkPost w (mkE (by' nm) bi LN l) (mkS (by' nm) bi LN l) (.returned (.tuple #[.agg #[.string n0, .int .u8 b0, .int .u8 k0, .int .u32 s0, .string t0, .slice a5 l5 c5, .slice a6 l6 c6], .int .i64 E])) w2) := Lib.hid (by
      intro h1 h2 h3 e w' ⟨hb, ho, hm⟩
      obtain ⟨k1, k2⟩ := mk_all (nm := by' nm) (bi := bi) (nt := LN) h5 h1 h2 h3
      have hlow : ∀ w2, w'.grownBy w2 (some w.heap.size) → Below w.heap.size w w2 := fun w2 hg => hb.grown hg hb.size (fun k hk => by cases hk; exact Nat.le_refl _)
      rcases hm with ⟨hk, vr, vn, he, hR, hN⟩ | ⟨hk, he⟩
      · obtain ⟨a5, c5, hv5⟩ := row_slice hR
        obtain ⟨a6, c6, hv6⟩ := row_slice hN
        subst hv5 hv6
        refine ⟨_, _, _, _, _, _, _, _, _, _, _, _, he, ho, fun w2 hg => ?_⟩
        rw [(k1 hk).1, (k1 hk).2]
        exact ⟨_, rfl, ⟨_, _, rfl, slC_of_row (fun _ _ => rfl) (World.ownsRow.kept hR hg (.inr (row_block ho hR (by decide)))), slC_of_row (fun _ _ => rfl) (World.ownsRow.kept hN hg (.inr (row_block ho hN (by decide))))⟩, hlow w2 hg⟩
      · refine ⟨_, _, _, _, _, _, _, _, _, _, _, _, he, ho, fun w2 hg => ?_⟩
        rw [(k2 hk).1, (k2 hk).2]
        exact ⟨_, rfl, sy_zero w2, hlow w2 hg⟩)
    have HG2 : Hid (w.heap.size < w.heap.size + 1) := Lib.hid (Nat.lt_succ_self _)
    obtain ⟨PE, hPE⟩ : ∃ P, P = mkE (by' nm) bi LN l := ⟨_, rfl⟩
    obtain ⟨PS, hPS⟩ : ∃ P, P = mkS (by' nm) bi LN l := ⟨_, rfl⟩
    rw [← hPE, ← hPS] at HZ HE2 HE9 HE3 HALL ⊢
    clear hN hNb hNf hL hLf hT h5 hPO PO hnm hbi hl hsF hPE hPS
    go_enter Tryd.func9, Tryd.ntmps9
    go_wp2_with fail
    go_loopw [28] (fun i wr => ∃ j : Nat, ∃ x : Int, i = .int .i64 x ∧ x = j ∧ j ≤ 3 ∧ Hid (MkS w wr nm bi (.slice an LN.length cn) l (w.heap.size + 1) j)) (fun i _ => 3 - (intOf i).toNat)
    case atStart => exact ⟨0, 0, rfl, rfl, by omega, H0⟩
    case round =>
      obtain ⟨j, x, rfl, hx, hj, hM⟩ := hrel
      have hj4 : j = 0 ∨ j = 1 ∨ j = 2 ∨ j = 3 := by omega
      have y0 : wr.cell? ⟨w.heap.size + 1 + 1, 0, none⟩ = some (.func (.func 32) #[.pointer (some ⟨w.heap.size + 1, 0, none⟩)] #[]) := hM.out.fs.cell 0
      have y1 : wr.cell? ⟨w.heap.size + 1 + 1, 1, none⟩ = some (.func (.func 33) #[.pointer (some ⟨w.heap.size + 1, 0, none⟩)] #[]) := hM.out.fs.cell 1
      have y2 : wr.cell? ⟨w.heap.size + 1 + 1, 2, none⟩ = some (.func (.func 34) #[.pointer (some ⟨w.heap.size + 1, 0, none⟩)] #[]) := hM.out.fs.cell 2
      rcases hj4 with rfl | rfl | rfl | rfl
      · obtain rfl : x = 0 := hx
        clear hj
        go_wp2_with fail
        refine (HENC.out _ hM.out).mono ?_
        rintro e w1 (⟨h1, rfl, q⟩ | ⟨h1, rfl, gq, hk⟩)
        · have HP := Lib.hid (HZ.out _ (HE2.out h1))
          have HRb := Lib.hid (hM.out.res.call q)
          have HLo := Lib.hid (below_call hM.out.low q)
          clear h1 q
          obtain ⟨x0, x1, x2, x3, x4, x5, x6⟩ := HRb.out.seven
          obtain ⟨e0, e1, e2, e3, e4, e5, e6, _, elt⟩ := HRb.out.free8
          have HM1 := Lib.hid (store7m (.string ⟨#[]⟩) (.int .u8 0) (.int .u8 0) (.int .u32 0) (.string ⟨#[]⟩) (.slice none 0 0) (.slice none 0 0) HRb.out)
          clear hM y0 y1 y2
          go_wp2_with fail
          obtain ⟨k1, k2⟩ := HM1.out _ rfl
          refine bodyPost_ret (v := .tuple #[.agg #[.string ⟨#[]⟩, .int .u8 0, .int .u8 0, .int .u32 0, .string ⟨#[]⟩, .slice none 0 0, .slice none 0 0], .int .i64 _]) (res_sy_tmp Tryd.results9 _ _ w.heap.size _ _ _ _ _ _ _ _ rfl rfl k1) rfl ?_
          exact HP.out _ (HLo.out.grown k2 HLo.out.size (fun k hk => by cases hk; exact Nat.le_refl _))
        · have HM2 := Lib.hid (hM.out.to gq HG2.out (j' := 1) ⟨allN_all h1, hk⟩)
          clear h1 gq hk hM y0 y1 y2
          go_wp2_with fail
          go_roundw
          case rel => exact ⟨1, 1, rfl, rfl, by omega, HM2⟩
          case measure => simp [intOf]
      · obtain rfl : x = 1 := hx
        clear hj
        go_wp2_with fail
        refine (HLAB.out _ hM.out).mono ?_
        rintro e w1 (⟨h1, rfl, gq⟩ | ⟨h1, rfl, gq, b, n0, hbl, hk, hl⟩)
        · have HP := Lib.hid (HZ.out _ (HE9.out hM.out.st.1 h1))
          have HRb := Lib.hid (hM.out.res.grown gq (fun e => by injection e; omega))
          have HLo : Hid (Below w.heap.size w w1) := Lib.hid (hM.out.low.grown gq hM.out.low.size (fun k hk => by cases hk; omega))
          clear h1 gq
          obtain ⟨x0, x1, x2, x3, x4, x5, x6⟩ := HRb.out.seven
          obtain ⟨e0, e1, e2, e3, e4, e5, e6, _, elt⟩ := HRb.out.free8
          have HM1 := Lib.hid (store7m (.string ⟨#[]⟩) (.int .u8 0) (.int .u8 0) (.int .u32 0) (.string ⟨#[]⟩) (.slice none 0 0) (.slice none 0 0) HRb.out)
          clear hM y0 y1 y2
          go_wp2_with fail
          obtain ⟨k1, k2⟩ := HM1.out _ rfl
          refine bodyPost_ret (v := .tuple #[.agg #[.string ⟨#[]⟩, .int .u8 0, .int .u8 0, .int .u32 0, .string ⟨#[]⟩, .slice none 0 0, .slice none 0 0], .int .i64 _]) (res_sy_tmp Tryd.results9 _ _ w.heap.size _ _ _ _ _ _ _ _ rfl rfl k1) rfl ?_
          exact HP.out _ (HLo.out.grown k2 HLo.out.size (fun k hk => by cases hk; exact Nat.le_refl _))
        · have HM2 := Lib.hid (hM.out.to gq HG2.out (j' := 2) ⟨hM.out.st.1, allN_all h1, b, n0, hk, hl⟩)
          clear h1 gq hbl hk hl hM y0 y1 y2
          go_wp2_with fail
          go_roundw
          case rel => exact ⟨2, 2, rfl, rfl, by omega, HM2⟩
          case measure => simp [intOf]
      · obtain rfl : x = 2 := hx
        clear hj
        obtain ⟨t1, t2, b, n0, t3, t4⟩ := hM.out.st
        have HREx := Lib.hid (HREF.out wr b n0 hM.out.low t1 t3 t4)
        have T1 := Lib.hid t1
        have T2 := Lib.hid t2
        clear t1 t2 t3 t4
        go_wp2_with fail
        refine HREx.out.mono ?_
        rintro e w1 (⟨h1, rfl, gq⟩ | ⟨h1, rfl, gq, v5, hk, hl⟩)
        · have HP := Lib.hid (HZ.out _ (HE3.out T1.out T2.out h1))
          have HRb := Lib.hid (hM.out.res.grown gq (fun e => by injection e; omega))
          have HLo : Hid (Below w.heap.size w w1) := Lib.hid (hM.out.low.grown gq hM.out.low.size (fun k hk => by cases hk; omega))
          clear h1 gq HREx
          obtain ⟨x0, x1, x2, x3, x4, x5, x6⟩ := HRb.out.seven
          obtain ⟨e0, e1, e2, e3, e4, e5, e6, _, elt⟩ := HRb.out.free8
          have HM1 := Lib.hid (store7m (.string ⟨#[]⟩) (.int .u8 0) (.int .u8 0) (.int .u32 0) (.string ⟨#[]⟩) (.slice none 0 0) (.slice none 0 0) HRb.out)
          clear hM y0 y1 y2
          go_wp2_with fail
          obtain ⟨k1, k2⟩ := HM1.out _ rfl
          refine bodyPost_ret (v := .tuple #[.agg #[.string ⟨#[]⟩, .int .u8 0, .int .u8 0, .int .u32 0, .string ⟨#[]⟩, .slice none 0 0, .slice none 0 0], .int .i64 _]) (res_sy_tmp Tryd.results9 _ _ w.heap.size _ _ _ _ _ _ _ _ rfl rfl k1) rfl ?_
          exact HP.out _ (HLo.out.grown k2 HLo.out.size (fun k hk => by cases hk; exact Nat.le_refl _))
        · have HM2 := Lib.hid (hM.out.to gq HG2.out (j' := 3) ⟨T1.out, T2.out, allN_all h1, v5, _, hk, row_weak hl hM.out.low.size⟩)
          clear h1 gq hk hl hM y0 y1 y2 HREx T1 T2
          go_wp2_with fail
          go_roundw
          case rel => exact ⟨3, 3, rfl, rfl, by omega, HM2⟩
          case measure => simp [intOf]
      · obtain rfl : x = 3 := hx
        clear hj
        obtain ⟨t1, t2, t3, v5, v7, t4, t5⟩ := hM.out.st
        have HMx := Lib.hid (HMD.out wr v5 v7 hM.out.low hM.out.res t4 t5)
        have HAx := Lib.hid (HALL.out t1 t2 t3)
        clear t1 t2 t3 t4 t5 y0 y1 y2 hM
        go_wp2_with fail
        refine HMx.out.mono ?_
        rintro e w1 hm
        obtain ⟨n0, b0, k0, s0, t0, a5, l5, c5, a6, l6, c6, E, rfl, ho, hfi⟩ := HAx.out e w1 hm
        have HFI := Lib.hid hfi
        obtain ⟨x0, x1, x2, x3, x4, x5, x6⟩ := ho.seven
        obtain ⟨e0, e1, e2, e3, e4, e5, e6, _, elt⟩ := ho.free8
        have HM1 := Lib.hid (store7m (.string n0) (.int .u8 b0) (.int .u8 k0) (.int .u32 s0) (.string t0) (.slice a5 l5 c5) (.slice a6 l6 c6) ho)
        clear hm ho hfi HAx HMx
        go_wp2_with fail
        obtain ⟨k1, k2⟩ := HM1.out _ rfl
        refine bodyPost_ret (v := .tuple #[.agg #[.string n0, .int .u8 b0, .int .u8 k0, .int .u32 s0, .string t0, .slice a5 l5 c5, .slice a6 l6 c6], .int .i64 E]) (res_sy_tmp Tryd.results9 _ _ w.heap.size _ _ _ _ _ _ _ _ rfl rfl k1) rfl (HFI.out _ k2)
end Go.Proofs.YtlnnhgmkibjgmaaDoor
