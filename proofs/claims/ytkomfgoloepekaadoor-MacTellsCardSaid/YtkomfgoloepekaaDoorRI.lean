/- aediculeref02.Sum: the document's answer is the sum of the text. -/
import Derived.Test.YtkomfgoloepekaaDoorRH
import Derived.Test.YtkomfgoloepekaaDoorH
set_option linter.unusedVariables false
namespace Go.Proofs.YtkomfgoloepekaaDoor.Rf
open Go.RowKit

theorem ownM_cell {B : Nat} {l : List Nat} {g n cap : Nat} {w : World} (h : OwnM B l (.slice (some ⟨g, 0, none⟩) n cap) w) (j : Nat) (hj : j < l.length) : w.cell? ⟨g, j, none⟩ = some (.int .u8 (l.getD j 0 : Nat)) := by
  have h1 := ownsRowM.cells h (g := g) rfl j _ (u8s_getD l j hj)
  rw [Addr.add_mid, Nat.zero_add] at h1
  exact h1
theorem ownM_form {B : Nat} {l : List Nat} {v : Value} {w : World} (h : OwnM B l v w) (hl : l ≠ []) : ∃ g cap, v = .slice (some ⟨g, 0, none⟩) l.length cap ∧ l.length ≤ cap ∧ B ≤ g ∧ g < w.heap.size := by
  have hlt := ownsRowM.lt h
  unfold OwnM at h
  rcases h.2 with ⟨rfl, h0⟩ | ⟨g, cap, cur, fz, rfl, hB, hg, _, hnc, _⟩
  · exact absurd (by simpa [u8s] using h0) hl
  · exact ⟨g, cap, rfl, hnc, hB, (hlt g rfl).2⟩
theorem drop_getD (l : List Nat) (i j : Nat) : (l.drop i).getD j 0 = l.getD (i + j) 0 := by
  simp [List.getD_eq_getElem?_getD, List.getElem?_drop]
theorem take_getD (l : List Nat) (i j : Nat) (h : j < i) : (l.take i).getD j 0 = l.getD j 0 := by
  simp [List.getD_eq_getElem?_getD, List.getElem?_take_of_lt h]

set_option maxHeartbeats 1000000 in
set_option maxRecDepth 100000 in
theorem rsum_any (s : ByteArray) (hs : s.size ≤ 1048576) (w : World) :
    Calls Tryd.prog 17 #[.string s] w fun e w' => e = .returned (.string (str (Sh.sum (nats s)))) ∧ Below w.heap.size w w' := by
  obtain ⟨i0, hi, hz0, hz1, hz2⟩ := info_parts infoByte
  have HF := Lib.hid (fun w => filled_any s hs w)
  obtain ⟨L, hL⟩ : ∃ L, L = nats s ++ Sh.pad s.size := ⟨_, rfl⟩
  obtain ⟨m, hm⟩ : ∃ m, m = L.length / 64 := ⟨_, rfl⟩
  have hLl : L.length = 64 * m := by
    have h1 := Sh.pad_whole s.size
    have h2 : L.length = s.size + (Sh.pad s.size).length := by rw [hL, List.length_append, nats_length]
    omega
  have hm200 : m ≤ 20000 := by
    have h2 : L.length = s.size + (Sh.pad s.size).length := by rw [hL, List.length_append, nats_length]
    have h3 := Sh.pad_length s.size
    omega
  have hm0 : 1 ≤ m := by
    have h2 : L.length = s.size + (Sh.pad s.size).length := by rw [hL, List.length_append, nats_length]
    have h3 := Sh.pad_length s.size
    omega
  have HSum : Hid (Sh.sum (nats s) = Sh.digest (Sh.state L)) := by
    unfold Sh.sum; rw [nats_length, ← hL]; exact Lib.hid rfl
  have HSt : Hid (Sh.blocks m Sh.heads L = Sh.state L) := by unfold Sh.state; rw [← hm]; exact Lib.hid rfl
  have HLs : Hid (∀ x ∈ L, x < 256) := by
    rw [hL]
    refine Lib.hid (fun x hx => ?_)
    rcases List.mem_append.1 hx with h | h
    · exact nats_small s x h
    · exact Sh.pad_small _ x h
  have HR1 := Lib.hid (fun w => roots_any 8 2 (by decide) (by decide) (by decide) (by decide) w)
  have HR2 := Lib.hid (fun w => roots_any 64 3 (by decide) (by decide) (by decide) (by decide) w)
  rw [rootsL_heads] at HR1
  rw [rootsL_keys] at HR2
  rw [← hL] at HF
  have HLl := Lib.hid hLl
  clear hL hm hLl hs
  go_enter Tryd.func17, Tryd.ntmps17
  go_wp2_with fail
  refine (HR1.out _).mono ?_; rintro e w1 ⟨v1, rfl, o1, hb1⟩
  obtain ⟨gh, ch, hv1, _⟩ := ownU_row o1 (by decide)
  subst hv1
  rw [show Sh.heads.length = 8 from rfl] at o1 ⊢
  have O1 := Lib.hid o1
  clear o1
  go_wp2_with fail
  refine (HR2.out _).mono ?_; rintro e w2 ⟨v2, rfl, o2, hb2⟩
  obtain ⟨gk, ck, hv2, _⟩ := ownU_row o2 (by decide)
  subst hv2
  rw [show Sh.keys.length = 64 from rfl] at o2 ⊢
  have O1' := Lib.hid (ownU_below O1.out hb2)
  have O2 := Lib.hid o2
  have hbB := hb1.trans (hb2.mono hb1.size)
  clear o2 hb1 hb2 O1
  go_wp2_with fail
  refine (HF.out _).mono ?_; rintro e w3 ⟨v3, rfl, o3, hb3⟩
  obtain ⟨gb, cb, hv3, hcb, _, hgb⟩ := ownM_form o3 (by intro e; have := HLl.out; rw [e] at this; simp at this; omega)
  subst hv3
  have O1'' := Lib.hid (ownU_below O1'.out hb3)
  have O2' := Lib.hid (ownU_below O2.out hb3)
  have HCell : Hid (∀ j, j < 64 * m → w3.cell? ⟨gb, j, none⟩ = some (.int .u8 (L.getD j 0 : Nat))) := Lib.hid (fun j hj => ownM_cell o3 j (by rw [HLl.out]; exact hj))
  have hbB2 := hbB.trans (hb3.mono hbB.size)
  have HBB := Lib.hid hbB2
  rw [HLl.out] at hcb ⊢
  clear o3 hbB hb3 O1' O2 hbB2
  have H8 : Hid (OwnU 0 Sh.heads (.slice (some ⟨gh, 0, none⟩) 8 ch) w3) := Lib.hid (ownU_mono O1''.out (Nat.zero_le _))
  have K64 : Hid (OwnU 0 Sh.keys (.slice (some ⟨gk, 0, none⟩) 64 ck) w3) := Lib.hid (ownU_mono O2'.out (Nat.zero_le _))
  clear O1'' O2'
  go_wp2
  go_loopw [3, 5] (fun t3 t5 wr => ∃ (k o gh ch c : Nat) (a : Option Addr) (H : List Nat), k ≤ m ∧ t3 = .slice (some ⟨gh, 0, none⟩) 8 ch ∧ t5 = .slice a (64 * (m - k)) c ∧ 64 * (m - k) ≤ c ∧ (k < m → a = some ⟨gb, 64 * k, none⟩) ∧
    Hid (OwnU 0 H (.slice (some ⟨gh, 0, none⟩) 8 ch) wr) ∧ Hid (H.length = 8 ∧ Small H ∧ Sh.blocks (m - k) H (L.drop (64 * k)) = Sh.state L) ∧ Below w3.heap.size w3 wr) (fun _ t5 _ => match t5 with | .slice _ n _ => n | _ => 0)
  case atStart => exact ⟨0, 0, gh, ch, cb, _, Sh.heads, Nat.zero_le _, rfl, rfl, hcb, fun _ => rfl, H8, Lib.hid ⟨rfl, Sh.heads_small, by simpa using HSt.out⟩, Below.refl _ _⟩
  case round =>
    clear H8
    obtain ⟨k, _, gh, ch, c, a, H, hk, rfl, rfl, hc, ha, HO, HI, hb⟩ := hrel
    by_cases hlt : k < m
    · have ha := ha hlt
      subst ha
      obtain ⟨r, hr⟩ : ∃ r, m - k = r + 1 := ⟨m - k - 1, by omega⟩
      rw [hr] at hc ⊢
      have hr2 : m - (k + 1) = r := by omega
      have HI2 : Hid (Sh.blocks r (Sh.blockL Sh.keys (Sh.words ((L.drop (64 * k)).take 64)) H) (L.drop (64 * (k + 1))) = Sh.state L) := by
        have h := HI.out.2.2
        rw [hr] at h
        have h2 : Sh.blocks (r + 1) H (L.drop (64 * k)) = Sh.blocks r (Sh.blockL Sh.keys (Sh.words ((L.drop (64 * k)).take 64)) H) ((L.drop (64 * k)).drop 64) := rfl
        rw [h2, List.drop_drop] at h
        exact Lib.hid h
      obtain ⟨bs, hbs⟩ : ∃ bs, bs = (L.drop (64 * k)).take 64 := ⟨_, rfl⟩
      rw [← hbs] at HI2
      have hgb2 : gb < wr.heap.size := Nat.lt_of_lt_of_le hgb hb.size
      have HW : Hid (∀ c, Calls Tryd.prog 35 #[.slice (some ⟨gb, 64 * k, none⟩) 64 c] wr fun e w' => ∃ v, e = .returned v ∧ OwnU wr.heap.size (Sh.words bs) v w' ∧ Below wr.heap.size wr w') := by
        refine Lib.hid (fun c => words_any bs gb (64 * k) c wr (fun j hj => ?_) (fun x hx => ?_) hgb2)
        · rw [hb.cell (p := ⟨gb, 64 * k + j, none⟩) hgb, hbs, take_getD _ _ _ hj, drop_getD]
          exact HCell.out _ (by omega)
        · rw [hbs] at hx
          exact HLs.out x (List.mem_of_mem_drop (List.mem_of_mem_take hx))
      have lW : (Sh.words bs).length = 64 := Sh.words_length bs
      have sW : Small (Sh.words bs) := Sh.words_small bs (fun x hx => by rw [hbs] at hx; exact HLs.out x (List.mem_of_mem_drop (List.mem_of_mem_take hx)))
      have HBk : Hid (∀ c, Calls Tryd.prog 27 #[.slice (some ⟨gh, 0, none⟩) 8 ch, .slice (some ⟨gk, 0, none⟩) 64 ck, .slice (some ⟨gb, 64 * k, none⟩) 64 c] wr fun e w' => ∃ v, e = .returned v ∧ OwnU wr.heap.size (Sh.blockL Sh.keys (Sh.words bs) H) v w' ∧ Below wr.heap.size wr w') := by
        refine Lib.hid (fun c => block_any (Sh.words bs) Sh.keys H gh gk ch ck _ wr (HW.out c) lW Sh.keys_length HI.out.1 sW Sh.keys_small HI.out.2.1 ?_ ?_)
        · have h := HO.out; rw [HI.out.1]; exact h
        · exact ownU_below K64.out hb
      have HNl : Hid ((Sh.blockL Sh.keys (Sh.words bs) H).length = 8) := Lib.hid (Sh.blockL_length _ _ _ HI.out.1)
      have HNs : Hid (Small (Sh.blockL Sh.keys (Sh.words bs) H)) := Lib.hid (Sh.blockL_small _ _ _)
      generalize Sh.blockL Sh.keys (Sh.words bs) H = H2 at *
      have c1 : (64 : Int) ≤ (c : Int) := by omega
      have c2 : (64 : Int) ≤ 64 * ((r : Int) + 1) := by omega
      have c3 : 64 * ((r : Int) + 1) ≤ (c : Int) := by omega
      have c4 : 0 < 64 * (r + 1) := by omega
      clear hbs HW lW sW HO HI
      go_wp2_with fail
      refine (HBk.out c).mono ?_; rintro e w4 ⟨v4, rfl, o4, hb4⟩
      obtain ⟨gh2, ch2, hv4, _⟩ := ownU_row o4 (by intro e; have := HNl.out; rw [e] at this; simp at this)
      subst hv4
      rw [HNl.out] at o4 ⊢
      have HO4 : Hid (OwnU 0 H2 (.slice (some ⟨gh2, 0, none⟩) 8 ch2) w4) := Lib.hid (ownU_mono o4 (Nat.zero_le _))
      have hb5 := hb.trans (hb4.mono hb.size)
      have HI5 : Hid (H2.length = 8 ∧ Small H2 ∧ Sh.blocks (m - (k + 1)) H2 (L.drop (64 * (k + 1))) = Sh.state L) := by
        rw [hr2]; exact Lib.hid ⟨HNl.out, HNs.out, HI2.out⟩
      have hsub : 64 * (r + 1) - 64 = 64 * r := by omega
      have hc5 : 64 * r ≤ c - 64 := by omega
      have hk5 : k + 1 < m → ¬ c = 64 := by omega
      clear o4 hb4 HBk HNl HNs HI2 hb
      by_cases hc64 : c = 64
      · subst hc64
        go_wp2
        go_roundw
        case rel => exact ⟨k + 1, 0, gh2, ch2, _, _, H2, by omega, rfl, by rw [hr2], by rw [hr2]; omega, fun h => absurd trivial (hk5 h), HO4, HI5, hb5⟩
        case measure => show 64 * r < 64 * (r + 1); omega
      · go_wp2
        go_roundw
        case rel => exact ⟨k + 1, 0, gh2, ch2, _, _, H2, by omega, rfl, by rw [hr2], by rw [hr2]; exact hc5, fun h => by rw [Nat.mul_add], HO4, HI5, hb5⟩
        case measure => show 64 * r < 64 * (r + 1); omega
    · have hkm : k = m := by omega
      subst hkm
      rw [Nat.sub_self, Nat.mul_zero]
      have HS : Hid (H = Sh.state L) := by
        have h := HI.out.2.2
        rw [Nat.sub_self] at h
        exact Lib.hid h
      have HO8 : Hid (OwnU 0 H (.slice (some ⟨gh, 0, none⟩) 8 ch) wr) := HO
      have HI8 := Lib.hid (And.intro HI.out.1 HI.out.2.1)
      have hbw := HBB.out.trans (hb.mono HBB.out.size)
      have hghl : gh < wr.heap.size := ownU_lt HO8.out
      obtain ⟨wo, rfl⟩ : ∃ wo : World, wo = wr := ⟨_, rfl⟩
      obtain ⟨B, hB⟩ : ∃ B, B = wo.heap.size := ⟨_, rfl⟩
      have HB := Lib.hid hB
      clear HO HI hb ha hc hlt hB
      go_wp2
      go_loopw [6, 7] (fun t6 t7 wr => ∃ (i : Nat) (z : Value), i ≤ 8 ∧ t7 = .int .i64 i ∧ z = t6 ∧ Hid (OwnB B (Sh.digest (H.take i)) z wr) ∧ Below B wo wr) (fun _ t7 _ => (8 - intOf t7).toNat)
      case atStart => exact ⟨0, .slice none 0 0, by omega, rfl, rfl, Lib.hid (ownB_nil _ _), by rw [HB.out]; exact Below.refl _ _⟩
      case round =>
        obtain ⟨i, sl, hi8, rfl, rfl, HD, hbx⟩ := hrel
        have hBs : B ≤ wr.heap.size := by have := hbx.size; have := HB.out; omega
        by_cases hlt : i < 8
        · obtain ⟨x, hx⟩ : ∃ x, H.getD i 0 = x := ⟨_, rfl⟩
          have gx : wr.cell? ⟨gh, i, none⟩ = some (.int .u32 (x : Int)) := by
            rw [hbx.cell (p := ⟨gh, i, none⟩) (by rw [HB.out]; exact hghl), ← hx]
            have h := ownU_len HO8.out HI8.out.1
            rw [World.ownsRow.cellAt h i (by omega)]
            exact u32s_getD H i (by rw [HI8.out.1]; exact hlt)
          have HT : Hid (Sh.digest (H.take (i + 1)) = Sh.digest (H.take i) ++ Sh.put4 x) := by
            have hs : H[i]'(by rw [HI8.out.1]; exact hlt) = x := by rw [← hx]; simp [List.getD_eq_getElem?_getD, HI8.out.1, hlt]
            unfold Sh.digest
            rw [List.take_succ_eq_append_getElem (by rw [HI8.out.1]; exact hlt), List.flatMap_append, hs]
            exact Lib.hid (by simp)
          have hlen : (Sh.digest (H.take i)).length = 4 * i := by rw [Sh.digest_length, List.length_take, HI8.out.1]; omega
          have Hown : Hid (wr.ownsRow B 5 1 sl (4 * i) (u8s (Sh.digest (H.take i)))) := by
            have h := HD.out
            unfold OwnB at h
            rw [hlen] at h
            exact Lib.hid h
          have Hlen := Lib.hid hlen
          have i1 : (0 : Int) ≤ (i : Int) := by omega
          have i2 : (i : Int) < 8 := by omega
          clear hx hlen HD
          go_wp2_with fail
          refine wp_region_quiet_tail_one 23 sl (by kernel_rfl) (by kernel_rfl) rfl (fun _ _ _ h => h) (fun w => BigFrame.run_move (.tmp 6) rfl w) ?_
          simp only [List.take_succ_cons, List.take_zero, List.drop_succ_cons, List.drop_zero, Act.put, List.setIfInBounds_toArray, List.set_cons_zero, List.set_cons_succ]
          repeat (go_big_quiet_step (fail))
          refine wpQuiet_nil ?_
          intro _ hw'
          obtain ⟨nq, hw''⟩ := hw'
          subst hw''
          obtain ⟨wq, hwq⟩ : ∃ wq, wq = wr.drewN nq := ⟨_, rfl⟩
          have Hown2 : Hid (wq.ownsRow B 5 1 sl (4 * i) (u8s (Sh.digest (H.take i)))) := by rw [hwq]; exact Hown
          have hb2 : Below B wo wq := by rw [hwq]; exact below_drewN hbx nq
          have hBq : B ≤ wq.heap.size := by rw [hwq]; exact hBs
          rw [← hwq]
          have HP : Hid (u8s (Sh.put4 x) = [.int .u8 ((x : Int) / 16777216 % 256), .int .u8 ((x : Int) / 65536 % 256), .int .u8 ((x : Int) / 256 % 256), .int .u8 ((x : Int) % 256)]) := Lib.hid (by simp [u8s, Sh.put4])
          have K3 : Hid (4 * i + 4 ≤ maxLen) := Lib.hid (by unfold maxLen; omega)
          have K4 : Hid ((4 * i + 4) * 1 ≤ 140737488355328) := Lib.hid (by omega)
          clear hwq gx Hown hbx hBs
          go_wp2_with (at_builtin; refine wpList_append_own _ rfl (.tmp 26) (.tmp 50) 33 rfl B 5 i0 (.int .u8 0) 1 1 Tryd.underlying33 hi hz0 hz1 hz2 rfl (by decide) _ _ _ rfl (Hown2.out.alloc _) ⟨wq.heap.size, 0, none⟩ 4 4 [.int .u8 ((x : Int) / 16777216 % 256), .int .u8 ((x : Int) / 65536 % 256), .int .u8 ((x : Int) / 256 % 256), .int .u8 ((x : Int) % 256)] rfl rfl ?c1 ?c2 K3.out K4.out ?c5 ?_)
          case c1 => exact World.news_of_block (cs := #[.int .u8 ((x : Int) / 16777216 % 256), .int .u8 ((x : Int) / 65536 % 256), .int .u8 ((x : Int) / 256 % 256), .int .u8 ((x : Int) % 256)]) (t := 5) (fr := (0, 0)) (heap_alloc_new wq _)
          case c2 => intro u hu; simp only [List.mem_cons, List.not_mem_nil, or_false] at hu; rcases hu with rfl | rfl | rfl | rfl <;> rfl
          case c5 => simp; omega
          intro z' w2 hown' hgrow' _
          have hb3 := appB_below hb2 hBq Hown2.out hgrow'
          have HO2 : Hid (OwnB B (Sh.digest (H.take (i + 1))) z' w2) := by
            rw [HT.out]
            rw [← HP.out] at hown'
            exact Lib.hid (ownB_more (by rw [Hlen.out]; rfl) hown')
          clear hown' hgrow' Hown2 hb2 HT HP K3 K4
          go_wp2
          go_roundw
          case rel => exact ⟨i + 1, z', by omega, by go_num, rfl, HO2, hb3⟩
          case measure => simp [intOf]; omega
        · have hi8' : i = 8 := by omega
          subst hi8'
          rw [show ((8 : Nat) : Int) = 8 from rfl]
          have hconv := ownB_text HD.out (Sh.digest_small _)
          obtain ⟨a', n', c', hsl⟩ := ownB_slice HD.out
          have HE : Hid (Sh.digest (H.take 8) = Sh.sum (nats s)) := by
            rw [List.take_of_length_le (by rw [HI8.out.1]; exact Nat.le_refl _), HS.out, HSum.out]; exact Lib.hid rfl
          subst hsl
          go_wp2
          go_ret
          exact ⟨ret_str (by rw [HE.out]), hbw.trans (hbx.mono (by rw [HB.out]; exact hbw.size))⟩
end Go.Proofs.YtkomfgoloepekaaDoor.Rf
