/- The program's Union. -/
import Derived.Test.YtmfebmiigkmkbaaDQ
set_option linter.unusedVariables false
set_option linter.unusedSimpArgs false
namespace Go.Proofs.Ytmfebmiigkmkbaa.Dm
open Oj
def uN (l : List Mf) (k : Nat) : List Nt := (l.take k).flatMap notesOf
theorem uN_succ (l : List Mf) (k : Nat) (h : k < l.length) : uN l (k + 1) = uN l k ++ notesOf (l.getD k Mf.nought) := by
  rw [uN, uN, List.take_succ_eq_append_getElem h, List.flatMap_append, List.getD_eq_getElem?_getD, List.getElem?_eq_getElem h]
  simp
theorem uN_all (l : List Mf) : uN l l.length = l.flatMap notesOf := by rw [uN, List.take_of_length_le (Nat.le_refl _)]
theorem uN_len (l : List Mf) : ∀ k, k ≤ l.length → (∀ j, j < k → (notesOf (l.getD j Mf.nought)).length ≤ 34) → (uN l k).length ≤ 34 * k
  | 0, _, _ => by simp [uN]
  | k + 1, h, h2 => by
    have h3 := uN_len l k (by omega) (fun j hj => h2 j (by omega))
    have h4 := h2 k (by omega)
    rw [uN_succ l k (by omega), List.length_append]
    omega
theorem uN_mem {l : List Mf} {k : Nat} (hk : k ≤ l.length) {n : Nt} (h : n ∈ uN l k) : ∃ j, j < k ∧ n ∈ notesOf (l.getD j Mf.nought) := by
  unfold uN at h
  obtain ⟨m, hm, hn⟩ := List.mem_flatMap.1 h
  obtain ⟨j, hj, rfl⟩ := List.getElem_of_mem hm
  have hj2 : j < k := by rw [List.length_take] at hj; omega
  refine ⟨j, hj2, ?_⟩
  rw [List.getD_eq_getElem?_getD, List.getElem?_eq_getElem (by omega)]
  simpa using hn
end Go.Proofs.Ytmfebmiigkmkbaa.Dm
namespace Go.Proofs.Ytmfebmiigkmkbaa
open Go Go.RowKit Oj Dm

theorem good_fits {l : List Nt} (h : Dm.Good l) (hl : l.length ≤ 1048574) : ntsFit l := by
  refine ⟨by omega, fun j hj => ?_⟩
  have h1 := h _ ((mem_at Nt.nought).2 ⟨j, hj, rfl⟩)
  have h2 := note_cases h1.1
  have h3 := h1.2
  refine ⟨⟨by omega, by omega⟩, ⟨h3, by omega⟩, ⟨by omega, by omega⟩⟩
theorem nts_one (l : List Nt) : ∀ u ∈ l.flatMap ntCells, u.oneCell' = true := by
  intro u hu
  obtain ⟨p, _, hp⟩ := List.mem_flatMap.1 hu
  simp only [ntCells, List.mem_cons, List.not_mem_nil, or_false] at hp
  rcases hp with rfl | rfl | rfl <;> rfl
theorem OwnN.join {w : World} {B : Nat} {v : Value} {l l2 : List Nt} (h : w.ownsRow B 28 3 v (l.length + l2.length) (l.flatMap ntCells ++ l2.flatMap ntCells)) : OwnN w B v (l ++ l2) := by
  unfold OwnN
  rw [List.length_append, List.flatMap_append]
  exact h
theorem OwnN.nil_or {w : World} {B : Nat} {v : Value} {l : List Nt} (h : OwnN w B v l) : (v = .slice none 0 0 ∧ l = []) ∨ ∃ g c, v = .slice (some ⟨g, 0, none⟩) l.length c ∧ ∀ j u, (l.flatMap ntCells)[j]? = some u → w.cell? ((⟨g, 0, none⟩ : Addr).add j) = some u := by
  rcases h.2 with ⟨h1, h2⟩ | ⟨g, c, cur, h1, _⟩
  · exact .inl ⟨h1, List.length_eq_zero_iff.1 h2⟩
  · exact .inr ⟨g, c, h1, World.ownsRow.cells h (by rw [h1]; rfl)⟩

set_option maxHeartbeats 8000000 in
set_option maxRecDepth 100000 in
theorem union_any (v : Value) (l : List Mf) (w : World) (hA : MfsAt w v l) (hf : mfsFit l) (hl : l.length ≤ 600) : Calls Try.prog 22 #[v] w (MPost w (unionR l)) := by
  obtain ⟨a, c, rfl, h3⟩ := hA.get
  obtain ⟨i0, hi, hz0, hz1, hz2⟩ := info_parts infoNote
  have HI := Lib.hid (And.intro hi (And.intro hz0 (And.intro hz1 hz2)))
  obtain ⟨n, hn⟩ : ∃ n, n = l.length := ⟨_, rfl⟩
  have hni : (n : Int) ≤ 600 := by omega
  rw [← hn] at h3 ⊢
  have HN := Lib.hid hn
  have H3 := Lib.hid h3
  have HF := Lib.hid hf.2
  have HB0 := Lib.hid (below_new1 w (.cells #[.int .u32 0, .slice none 0 0, .slice none 0 0, .bool false] 26))
  have HR0 : Hid (Blk (w.alloc (.cells #[.int .u32 0, .slice none 0 0, .slice none 0 0, .bool false] 26)) w.heap.size 26 zM) := Lib.hid (Blk.new w 26 zM)
  have HO0 : Hid (OwnN (w.alloc (.cells #[.int .u32 0, .slice none 0 0, .slice none 0 0, .bool false] 26)) w.heap.size (.slice none 0 0) (uN l 0)) := Lib.hid (by show OwnN _ _ _ []; exact World.ownsRow_nil _ _ _ _)
  clear hn h3 hf hl hA hi hz0 hz1 hz2
  go_enter Try.func22, Try.ntmps22
  go_wp2_with fail
  go_loopw [4, 10] (fun t4 i wr => ∃ (k : Nat) (a : Option Addr) (n4 c : Nat), (k : Int) ≤ n ∧ i = .int .i64 k ∧ t4 = .slice a n4 c ∧ Hid (∀ j, j < k → mfOk (l.getD j Mf.nought) = true) ∧ Hid (Below w.heap.size w wr) ∧ Hid (Blk wr w.heap.size 26 zM) ∧ Hid (OwnN wr w.heap.size (.slice a n4 c) (uN l k))) (fun _ i _ => n - (intOf i).toNat)
  case atStart => exact ⟨0, none, 0, 0, by omega, rfl, rfl, Lib.hid fun j hj => absurd hj (by omega), HB0, HR0, HO0⟩
  case round =>
    clear HB0 HR0 HO0
    obtain ⟨k, a4, n4, c4, hk, rfl, rfl, HK, HB, HR, HO⟩ := hrel
    by_cases hlt : k < n
    · have hd : decide (k < n) = true := decide_eq_true hlt
      obtain ⟨b, o, rfl, hbl, hcl⟩ := H3.out (by omega)
      obtain ⟨x, hx⟩ : ∃ x, x = l.getD k Mf.nought := ⟨_, rfl⟩
      obtain ⟨vx, vp, hL, hXx, hPp⟩ := hcl k hlt
      have hfx := HF.out k (by rw [← HN.out]; exact hlt)
      have hL := hL.below HB.out hbl
      rw [← hx] at hL hfx hXx hPp
      obtain ⟨c0, c1, c2, c3⟩ := hL.mf
      have hbr : b < wr.heap.size := Nat.lt_of_lt_of_le hbl HB.out.size
      have hM : MfAt w (mfV x vx vp) x := ⟨vx, vp, rfl, hXx, hPp⟩
      have HC := Lib.hid (fun W (hq : Below w.heap.size w W) => check_any (mfV x vx vp) x hfx W (hM.below hq))
      have HNt := Lib.hid (fun (hok : mfOk x = true) W (hq : Below w.heap.size w W) => notes_any (mfV x vx vp) x W (hM.below hq) hfx (by
        have h1 := ext16 (hfx.fine hok).1
        omega) (by have h1 := (hfx.fine hok).2; omega))
      obtain ⟨ax, cx, hvx⟩ := slC_slice hXx
      obtain ⟨ap, cp, hvp⟩ := slC_slice hPp
      obtain ⟨nx, hnx⟩ : ∃ n, n = x.ext.length := ⟨_, rfl⟩
      obtain ⟨np, hnp⟩ : ∃ n, n = x.ports.length := ⟨_, rfl⟩
      obtain ⟨P, hP⟩ : ∃ P, P = x.pages := ⟨_, rfl⟩
      obtain ⟨C, hC⟩ : ∃ C, C = x.con := ⟨_, rfl⟩
      rw [← hnx] at hvx
      rw [← hnp] at hvp
      unfold mfV at HC HNt
      rw [← hP, ← hC] at HC HNt
      rw [← hP] at c0
      rw [← hC] at c3
      subst hvx hvp
      obtain ⟨q, hq⟩ : ∃ q, q = mfOk x := ⟨_, rfl⟩
      rw [← hq] at HC
      have HQ : Hid (mfOk x = q) := Lib.hid hq.symm
      have HQ2 : Hid (x = l.getD k Mf.nought) := Lib.hid hx
      have HUN : Hid (uN l (k + 1) = uN l k ++ notesOf x) := Lib.hid (by rw [uN_succ l k (by rw [← HN.out]; exact hlt), hx])
      have HFX : Hid (mfFits x) := Lib.hid hfx
      have HBa := Lib.hid (below_box HB.out (.cells #[.int .u32 P, .slice ax nx cx, .slice ap np cp, .bool C] 26))
      have HRa := Lib.hid (HR.out.alloc (.cells #[.int .u32 P, .slice ax nx cx, .slice ap np cp, .bool C] 26))
      have HXa := Lib.hid (Blk.new wr 26 [.int .u32 P, .slice ax nx cx, .slice ap np cp, .bool C])
      have HOa : Hid (OwnN (wr.alloc (.cells #[.int .u32 P, .slice ax nx cx, .slice ap np cp, .bool C] 26)) w.heap.size (.slice a4 n4 c4) (uN l k)) := Lib.hid (row_below HO.out (below_new1 wr _))
      obtain ⟨ge, hge⟩ : ∃ ge, ge = wr.heap.size := ⟨_, rfl⟩
      rw [← hge] at HXa
      clear hL hfx hx hnx hnp hP hC hq hcl hM hXx hPp
      cases q with
      | true =>
        rw [okI_t] at HC
        have HK2 : Hid (∀ j, j < k + 1 → mfOk (l.getD j Mf.nought) = true) := Lib.hid fun j hj => by
          by_cases he : j = k
          · subst he; rw [← HQ2.out]; exact HQ.out
          · exact HK.out j (by omega)
        have HLen : Hid ((uN l k).length + (notesOf x).length ≤ maxLen ∧ ((uN l k).length + (notesOf x).length) * 12 ≤ 140737488355328) := Lib.hid (by
          have hfine := fun j (hj : j < k) => (HF.out j (by rw [← HN.out]; omega)).fine (HK.out j hj)
          have h1 := uN_len l k (by rw [← HN.out]; omega) (fun j hj => by
            have h2 := notes_len (l.getD j Mf.nought)
            have h3 := ext16 (hfine j hj).1
            have h4 := (hfine j hj).2
            omega)
          have h2 := notes_len x
          have h3 := ext16 (HFX.out.fine HQ.out).1
          have h4 := (HFX.out.fine HQ.out).2
          unfold maxLen
          omega)
        clear HK HF HFX
        go_upto_region 5 with (fail)
        obtain ⟨wa, hwa⟩ : ∃ wa, wa = wr.alloc (.cells #[.int .u32 P, .slice ax nx cx, .slice ap np cp, .bool C] 26) := ⟨_, rfl⟩
        rw [← hwa] at HBa HRa HXa HOa ⊢
        rw [← hge]
        obtain ⟨x0, x1, x2, x3⟩ := HXa.out.four
        clear hwa hge HB HR HO c0 c1 c2 c3
        go_wp2_with fail
        refine (HC.out _ HBa.out).mono ?_; rintro e w2 ⟨rfl, q2⟩
        have HB2 := Lib.hid (below_call HBa.out q2)
        have HR2 := Lib.hid (HRa.out.call q2)
        have HX2 := Lib.hid (HXa.out.call q2)
        have HO2 : Hid (OwnN w2 w.heap.size (.slice a4 n4 c4) (uN l k)) := Lib.hid (row_below HOa.out q2)
        clear q2 x0 x1 x2 x3 HBa HRa HXa HOa
        obtain ⟨x0, x1, x2, x3⟩ := HX2.out.four
        go_wp2_with fail
        refine (HNt.out HQ.out _ HB2.out).mono ?_; rintro e w3 ⟨v3, rfl, hO3, q3⟩
        have HO3 : Hid (OwnN w3 w2.heap.size v3 (notesOf x)) := Lib.hid hO3
        have HB3 := Lib.hid (below_call HB2.out q3)
        have HR3 := Lib.hid (HR2.out.call q3)
        have HO4 : Hid (OwnN w3 w.heap.size (.slice a4 n4 c4) (uN l k)) := Lib.hid (row_below HO2.out q3)
        have HBS : Hid (w.heap.size ≤ w3.heap.size) := Lib.hid HB3.out.size
        have HN4 : Hid (n4 = (uN l k).length) := Lib.hid (by obtain ⟨_, _, h⟩ := row_sl HO4.out; injection h)
        clear q3 x0 x1 x2 x3 HX2 HB2 HR2 HO2 hO3
        rcases HO3.out.nil_or with ⟨hv3, hnil⟩ | ⟨g3, c3, hv3, hsrc⟩
        · have HU : Hid (uN l (k + 1) = uN l k) := Lib.hid (by rw [HUN.out, hnil, List.append_nil])
          subst hv3
          clear hnil
          go_wp2_with (at_builtin; refine wpList_append_own_none rfl _ _ 37 rfl w.heap.size 28 i0 3 Try.underlying37 HI.out.1 (.slice a4 n4 c4) (uN l k).length _ rfl HO4.out rfl ?_)
          go_roundw
          case rel => exact ⟨k + 1, _, _, _, by omega, by go_num, rfl, HK2, HB3, HR3, Lib.hid (by rw [HU.out]; exact HO4.out)⟩
          case measure => simp [intOf]; omega
        · have HSrc := Lib.hid hsrc
          obtain ⟨m3, hm3⟩ : ∃ m3, m3 = (notesOf x).length := ⟨_, rfl⟩
          rw [← hm3] at hv3
          subst hv3
          have HM3 := Lib.hid hm3
          clear hsrc hm3
          go_wp2_with (at_builtin; (refine wpList_append_own _ rfl _ _ 37 rfl w.heap.size 28 i0 (.agg #[.int .u8 0, .int .u32 0, .int .u32 0]) 3 12 Try.underlying37 HI.out.1 HI.out.2.1 HI.out.2.2.1 HI.out.2.2.2 rfl (by decide) (.slice a4 n4 c4) (uN l k).length _ rfl HO4.out ⟨g3, 0, none⟩ m3 c3 ((notesOf x).flatMap ntCells) rfl (by rw [HM3.out]; exact fm_len nt_len _) HSrc.out (nts_one _) (by rw [HM3.out]; exact HLen.out.1) (by rw [HM3.out]; exact HLen.out.2) HBS.out ?_); intro v1 w1 h6 h7 _)
          have HO1 : Hid (OwnN w1 w.heap.size v1 (uN l (k + 1))) := Lib.hid (by
            rw [HUN.out]
            rw [HM3.out] at h6
            exact OwnN.join h6)
          have HB1 : Hid (Below w.heap.size w w1) := Lib.hid (HB3.out.grown h7 HB3.out.size (fun k hk => (World.ownsRow.lt HO4.out k hk).1))
          have HR1 : Hid (Blk w1 w.heap.size 26 zM) := Lib.hid (HR3.out.grown h7 (fun he => row_block HR3.out HO4.out (by decide) he.symm))
          obtain ⟨a1, c1, rfl⟩ := row_sl h6
          clear h6 h7
          go_wp2_with fail
          go_roundw
          case rel => exact ⟨k + 1, _, _, _, by omega, by go_num, rfl, HK2, HB1, HR1, HO1⟩
          case measure => simp [intOf]; omega
      | false =>
        rw [okI_f] at HC
        have HR9 : Hid (unionR l = (Mf.nought, 2)) := Lib.hid (by
          unfold unionR allMfs
          rw [allN_false (k := k) (by rw [← HN.out]; exact hlt) (by rw [← HQ2.out]; exact HQ.out), if_neg (by decide)])
        clear HK HF HFX
        go_upto_region 5 with (fail)
        obtain ⟨wa, hwa⟩ : ∃ wa, wa = wr.alloc (.cells #[.int .u32 P, .slice ax nx cx, .slice ap np cp, .bool C] 26) := ⟨_, rfl⟩
        rw [← hwa] at HBa HRa HXa HOa ⊢
        rw [← hge]
        obtain ⟨x0, x1, x2, x3⟩ := HXa.out.four
        clear hwa hge HB HR HO c0 c1 c2 c3
        go_wp2_with fail
        refine (HC.out _ HBa.out).mono ?_; rintro e w2 ⟨rfl, q2⟩
        have HB2 := Lib.hid (below_call HBa.out q2)
        have HR2 := Lib.hid (HRa.out.call q2)
        obtain ⟨e0, e1, e2, e3⟩ := HR2.out.four
        have f0 := HR2.out.frozen 0
        have f1 := HR2.out.frozen 1
        have f2 := HR2.out.frozen 2
        have f3 := HR2.out.frozen 3
        have hrl := HR2.out.lt
        clear q2 x0 x1 x2 x3
        go_wp2_with fail
        refine bodyPost_ret (res_mf_tmp Try.results22 _ _ w.heap.size _ _ _ _ _ rfl rfl (HR2.out.put4 _ _ _ _)) rfl ⟨.agg #[.int .u32 0, .slice none 0 0, .slice none 0 0, .bool false], by rw [HR9.out]; rfl, by rw [HR9.out]; exact mf_zero _ _, below_put4 HB2.out (Nat.le_refl _) _ _ _ _⟩
    · have hd : decide (k < n) = false := decide_eq_false hlt
      have hall : allMfs l = true := allN_true fun j hj => HK.out j (by rw [← HN.out] at hj; omega)
      have hkl : k = l.length := by rw [← HN.out]; omega
      have HR9 : Hid (unionR l = full (gat (uN l k))) := Lib.hid (by unfold unionR; rw [if_pos hall, hkl, uN_all])
      have hfine := fun j (hj : j < k) => (HF.out j (by rw [← hkl]; exact hj)).fine (HK.out j hj)
      have hgd : Dm.Good (uN l k) := fun y hy => by
        obtain ⟨j, hj, hy⟩ := uN_mem (by omega) hy
        exact good_notes (hfine j hj).1 y hy
      have hlen := uN_len l k (by omega) (fun j hj => by
        have h2 := notes_len (l.getD j Mf.nought)
        have h3 := ext16 (hfine j hj).1
        have h4 := (hfine j hj).2
        omega)
      have HC := Lib.hid (gathered_any (.slice a4 n4 c4) (uN l k) wr HO.out.at hgd (good_fits hgd (by omega)) (by omega))
      clear hlt HK hall hgd hkl hfine hlen
      go_wp2_with fail
      refine HC.out.mono ?_; rintro e w2 ⟨v', rfl, hM, q2⟩
      obtain ⟨E, hE⟩ : ∃ E, E = (full (gat (uN l k))).2 := ⟨_, rfl⟩
      have HM : Hid (MfOwn w2 wr.heap.size v' (full (gat (uN l k))).1) := Lib.hid hM
      obtain ⟨P, ax, nx, cx, ap, np, cp, C, hv⟩ := hM.open
      subst hv
      rw [← hE]
      have HE := Lib.hid hE
      have HB2 := Lib.hid (below_call HB.out q2)
      have HR2 := Lib.hid (HR.out.call q2)
      have HBw : Hid (w.heap.size ≤ wr.heap.size) := Lib.hid HB.out.size
      obtain ⟨e0, e1, e2, e3⟩ := HR2.out.four
      have f0 := HR2.out.frozen 0
      have f1 := HR2.out.frozen 1
      have f2 := HR2.out.frozen 2
      have f3 := HR2.out.frozen 3
      have hrl := HR2.out.lt
      clear q2 hM hE
      go_wp2_with fail
      refine bodyPost_ret (res_mf_tmp Try.results22 _ _ w.heap.size _ _ _ _ _ rfl rfl (HR2.out.put4 _ _ _ _)) rfl ⟨.agg #[.int .u32 P, .slice ax nx cx, .slice ap np cp, .bool C], by rw [HR9.out, ← HE.out]; rfl, ?_, below_put4 HB2.out (Nat.le_refl _) _ _ _ _⟩
      rw [HR9.out]
      exact (HM.out.grown HR2.out (by decide) (by decide) (grown_put4 _ w.heap.size _ _ _ _)).base HBw.out
end Go.Proofs.Ytmfebmiigkmkbaa
