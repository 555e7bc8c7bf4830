/- The document's reader: End, Texts. -/
import Derived.Test.YtijfdnaolgbpmaaPH
set_option linter.unusedVariables false
namespace Go.Proofs.Ytijfdnaolgbpmaa
open Go Go.RowKit Pk

section
variable {w w' : World} {g : Nat} {r : Rd}
theorem fin_len : (fin r).S = r.S := by unfold fin; split; rfl; split <;> rfl
set_option maxHeartbeats 1000000 in
set_option maxRecDepth 100000 in
theorem rdend_any (w : World) (h : RdAt w g r) : Calls Try.prog 26 #[.pointer (some ⟨g, 0, none⟩)] w fun x w' => x = .returned (.int .i64 (fin r).E) ∧ RdAt w' g (fin r) ∧ w.grownBy w' (some g) := by
  obtain ⟨c0, c1, f0, f1⟩ := h.cells
  have H := Lib.hid h
  unfold fin
  by_cases hE : r.E = 0
  · rw [if_neg (by simp [hE])]
    rw [hE] at c1
    obtain ⟨T, hT⟩ : ∃ T, T = tx r.S := ⟨_, rfl⟩
    rw [← hT] at c0
    have hTs : T.size = r.S.length := by rw [hT, tx_size]
    by_cases hS : r.S = []
    · rw [if_neg (by simp [hS])]
      have e : T.toList = [] := by rw [ByteArray.toList_eq, hT, hS]; rfl
      have e2 : (T.toList.isEmpty) = true := by rw [e]; rfl
      have e3 : (!T.toList.isEmpty) = false := by rw [e]; rfl
      have HE := Lib.hid hE
      clear hT hTs hS hE h
      go_enter Try.func26, Try.ntmps26
      go_wp2
      go_ret
      exact ⟨by rw [HE.out]; rfl, H.out, World.grownBy.refl _ _⟩
    · rw [if_pos hS]
      have e : T.toList ≠ [] := by rw [ByteArray.toList_eq, hT]; simpa [tx] using hS
      have e2 : (T.toList.isEmpty) = false := by cases hq : T.toList with | nil => exact absurd hq e | cons _ _ => rfl
      have e3 : (!T.toList.isEmpty) = true := by rw [e2]; rfl
      clear hT hTs hS hE h
      go_enter Try.func26, Try.ntmps26
      go_wp2_with fail
      refine (fails_any 7 _ H.out).mono ?_; rintro x w1 ⟨rfl, h1, g1⟩
      have HH := Lib.hid (And.intro h1 g1)
      clear h1 g1
      go_wp2
      go_ret
      exact ⟨rfl, HH.out.1, HH.out.2⟩
  · rw [if_pos hE]
    obtain ⟨E, hEE⟩ : ∃ E, E = r.E := ⟨_, rfl⟩
    have hb : (E != 0) = true := by rw [bne_iff_ne, hEE]; exact hE
    rw [← hEE] at c1 ⊢
    clear hE hEE h
    go_enter Try.func26, Try.ntmps26
    go_wp2
    go_ret
    exact ⟨rfl, H.out, World.grownBy.refl _ _⟩

/-! lists of texts of the call's own -/
def strsV (L : List (List UInt8)) : List Value := L.map fun s => Value.string (tx s)
theorem strsV_length (L : List (List UInt8)) : (strsV L).length = L.length := by simp [strsV]
theorem infoStr : (Try.prog.info? 9).map (fun i => (i.zero, i.size, i.bytes)) = some (some (.string ⟨#[]⟩), 1, 16) := by kernel_rfl
/-- A slice of the call's own that holds the texts L. -/
def OwnL (B : Nat) (L : List (List UInt8)) (v : Value) (w : World) : Prop := w.ownsRow B 9 1 v L.length (strsV L)
theorem ownL_nil (B : Nat) (w : World) : OwnL B [] (.slice none 0 0) w := World.ownsRow_nil _ _ _ _
theorem OwnL.slAt {B : Nat} {L : List (List UInt8)} {v : Value} {w : World} (h : OwnL B L v w) : SlAt w v L := by
  unfold OwnL at h
  rcases h.2 with ⟨rfl, h0⟩ | ⟨k, cap, cur, rfl, hBk, hk, hnc, hcm, hcs, htk⟩
  · have : L = [] := List.length_eq_zero_iff.1 h0
    subst this
    exact ⟨none, 0, rfl, fun h => absurd rfl h⟩
  · refine ⟨_, _, rfl, fun _ => ⟨k, 0, rfl, ?_, fun j hj => ?_⟩⟩
    · rcases Nat.lt_or_ge k w.heap.size with hlt | hge
      · exact hlt
      · rw [Array.getElem?_eq_none hge] at hk; cases hk
    · rw [cell_of_row _ _ _ _ _ _ hk, Nat.zero_add, ← Array.getElem?_toList]
      have h2 : cur.toList[j]? = (cur.toList.take (L.length * 1))[j]? := by rw [List.getElem?_take_of_lt (by omega)]
      rw [h2, htk]
      simp [strsV, hj]
theorem OwnL.grown {B g : Nat} {L : List (List UInt8)} {v : Value} {w w' : World} (h : OwnL B L v w) (hg : w.grownBy w' (some g)) (hB : g < B) : OwnL B L v w' := by
  refine World.ownsRow.kept h hg ?_
  cases hv : v.ownBlock with
  | none => left; rfl
  | some k => right; intro he; cases he; have := (World.ownsRow.lt h _ hv).1; omega
theorem OwnL.slice {B : Nat} {L : List (List UInt8)} {v : Value} {w : World} (h : OwnL B L v w) : ∃ a n c, v = .slice a n c := by
  unfold OwnL at h
  rcases h.2 with ⟨rfl, _⟩ | ⟨g, cap, cur, rfl, _⟩
  · exact ⟨_, _, _, rfl⟩
  · exact ⟨_, _, _, rfl⟩
theorem new_str (W : World) (x : Value) : ∀ j u, [x][j]? = some u → (W.alloc (.cells #[x] 9)).cell? ((⟨W.heap.size, 0, none⟩ : Addr).add j) = some u := by
  intro j u hj
  have hnew : (W.alloc (.cells #[x] 9)).heap[W.heap.size]? = some (.cells #[x] 9 (0, 0)) := heap_alloc_new W _
  rcases j with _ | j
  · simp at hj; subst hj
    show (W.alloc (.cells #[x] 9)).cell? ⟨W.heap.size, 0, none⟩ = _
    rw [Lib.cell_of_heap hnew]; rfl
  · simp at hj
/-- What Texts hands back. -/
def RdPostL (w : World) (g : Nat) (L : List (List UInt8)) (r : Rd) (x : Ending) (w' : World) : Prop := ∃ v, x = .returned (.tuple #[v, .int .i64 r.E]) ∧ OwnL w.heap.size L v w' ∧ RdAt w' g r ∧ w.grownBy w' (some g)
theorem below_none {w w' : World} (h : w.grownBy w' none) (g : Nat) : w.grownBy w' (some g) := ⟨h.os, h.tape, h.output, h.size, fun i hi _ => h.block i hi (by simp)⟩

set_option maxHeartbeats 4000000 in
set_option maxRecDepth 100000 in
theorem rdtexts_any (w : World) (h : RdAt w g r) (hS : r.S.length ≤ 1099511627776) :
    Calls Try.prog 24 #[.pointer (some ⟨g, 0, none⟩)] w (RdPostL w g (texts r).1 (texts r).2) := by
  obtain ⟨c0, c1, f0, f1⟩ := h.cells
  have HN := Lib.hid (rdnum_any 2 w h (by omega))
  have hlen := num_len (r := r) 2
  have hE0 := num_E0 (r := r) 2
  have hback := fun (h0 : r.E = 0) (h1 : (num r 2).2.E = 0) => (num2_back h0 h1).2
  have hgw : g < w.heap.size := Blk.lt h
  unfold texts
  obtain ⟨N, hN⟩ : ∃ N, N = (num r 2).1 := ⟨_, rfl⟩
  obtain ⟨r2, hr2⟩ : ∃ r2, r2 = (num r 2).2 := ⟨_, rfl⟩
  rw [← hN] at HN hback ⊢
  rw [← hr2] at HN hlen hback hE0 ⊢
  obtain ⟨T, hT⟩ : ∃ T, T = tx r.S := ⟨_, rfl⟩
  rw [← hT] at c0
  have HTT := Lib.hid hT
  unfold RdPost at HN
  by_cases h1 : r2.E = 0
  · have hNl := hback (hE0 h1) h1
    rw [if_neg (by simp [h1])]
    rw [h1] at HN
    have hNi : (N : Int) < 65536 := by omega
    by_cases hbig : 4096 < N
    · rw [if_pos hbig]
      have hbi : (4096 : Int) < (N : Int) := by omega
      clear hback hE0 hlen hNl hN hr2 h1 hT hS h hbig
      go_enter Try.func24, Try.ntmps24
      go_wp2_with fail
      refine HN.out.mono ?_; rintro x w1 ⟨rfl, q1, g1⟩
      obtain ⟨c0, c1, f0, f1⟩ := q1.cells
      have HF := Lib.hid (q1.setS r.S)
      rw [← HTT.out] at HF
      have HG := Lib.hid (g1.trans (grown_set w1 g 0 (.string T)))
      clear q1 g1 HN
      go_wp2_with fail
      refine (fails_any 7 _ HF.out).mono ?_; rintro x w2 ⟨rfl, q2, g2⟩
      have HH := Lib.hid (And.intro q2 (HG.out.trans g2))
      clear q2 g2 HF HG
      go_wp2
      go_ret2
      exact ⟨_, rfl, ownL_nil _ _, HH.out.1, HH.out.2⟩
    · rw [if_neg hbig]
      have hbi : (N : Int) ≤ 4096 := by omega
      have hd4 : decide ((4096 : Int) < (N : Int)) = false := decide_eq_false (by omega)
      obtain ⟨R, hR⟩ : ∃ R, R = textsN N r2 := ⟨_, rfl⟩
      rw [← hR]
      obtain ⟨OUT, hOUT⟩ : ∃ OUT : List (List UInt8) × Rd, OUT = if R.2.E ≠ 0 then ([], ⟨r.S, R.2.E⟩) else R := ⟨_, rfl⟩
      rw [← hOUT]
      have HOUT := Lib.hid hOUT
      clear hOUT
      have HR := Lib.hid hR
      have HR2 := Lib.hid (And.intro h1 (show r2.S.length ≤ 1099511627776 by omega))
      obtain ⟨i0, hi, hz0, hz1, hz2⟩ := info_parts infoStr
      clear hback hE0 hlen hNl hN hr2 h1 hT hS h hbig hR hNi
      go_enter Try.func24, Try.ntmps24
      go_wp2_with fail
      refine HN.out.mono ?_; rintro x w1 ⟨rfl, q1, g1⟩
      have HH := Lib.hid (And.intro q1 g1)
      clear q1 g1 HN c0 c1 f0 f1
      go_wp2_with fail
      go_loopw [7, 8] (fun l i wr => ∃ (k : Nat) (M : List (List UInt8)) (rk : Rd) (z : Value), (k : Int) ≤ N ∧ i = .int .i64 k ∧ z = l ∧ Hid (M.length = k ∧ rk.E = 0 ∧ rk.S.length ≤ 1099511627776 ∧ R = (M ++ (textsN (N - k) rk).1, (textsN (N - k) rk).2)) ∧ Hid (RdAt wr g rk ∧ w.grownBy wr (some g)) ∧ Hid (OwnL w.heap.size M z wr)) (fun _ i _ => N - (intOf i).toNat)
      case atStart => exact ⟨0, [], r2, .slice none 0 0, by omega, rfl, rfl, Lib.hid ⟨rfl, HR2.out.1, HR2.out.2, by rw [HR.out]; rfl⟩, HH, Lib.hid (ownL_nil _ _)⟩
      case round =>
        obtain ⟨k, M, rk, sl, hk, rfl, rfl, HK, HW, HO⟩ := hrel
        clear HH HR
        by_cases hlt : k < N
        · obtain ⟨hM, hk0, hkS, hkR⟩ := HK.out
          have HT := Lib.hid (rdtext_any wr HW.out.1 (by omega))
          obtain ⟨S1, hS1⟩ : ∃ S1, S1 = (text rk).1 := ⟨_, rfl⟩
          obtain ⟨r3, hr3⟩ : ∃ r3, r3 = (text rk).2 := ⟨_, rfl⟩
          have hl3 := text_len (r := rk)
          rw [← hr3] at hl3
          rw [show N - k = (N - (k + 1)) + 1 by omega, textsN, ← hr3, ← hS1] at hkR
          rw [← hS1, ← hr3] at HT
          obtain ⟨E3, hE3⟩ : ∃ E3, E3 = r3.E := ⟨_, rfl⟩
          unfold RdPost at HT
          rw [← hE3] at HT hkR
          obtain ⟨TS, hTS⟩ : ∃ TS, TS = tx S1 := ⟨_, rfl⟩
          rw [← hTS] at HT
          by_cases h3 : E3 = 0
          · rw [if_neg (by simp [h3])] at hkR
            have hb : (E3 != 0) = false := by simp [h3]
            have HK2 : Hid ((M ++ [S1]).length = k + 1 ∧ r3.E = 0 ∧ r3.S.length ≤ 1099511627776 ∧ R = ((M ++ [S1]) ++ (textsN (N - (k + 1)) r3).1, (textsN (N - (k + 1)) r3).2)) := Lib.hid ⟨by simp [hM], by rw [← hE3]; exact h3, by omega, by rw [hkR]; simp⟩
            have hown : wr.ownsRow w.heap.size 9 1 sl k (strsV M) := by have := HO.out; unfold OwnL at this; rw [hM] at this; exact this
            have HTS := Lib.hid hTS
            have HOw := Lib.hid hown
            have HM := Lib.hid hM
            have hg2 : g < w.heap.size := hgw
            clear h3 hkR hl3 hr3 hS1 hE3 hM hk0 hkS HK HO hTS hown
            go_wp2_with fail
            refine HT.out.mono ?_; rintro x w2 ⟨rfl, q2, g2⟩
            have HW2 := Lib.hid (And.intro q2 (HW.out.2.trans g2))
            have HO2 : Hid (w2.ownsRow w.heap.size 9 1 sl k (strsV M)) := Lib.hid (by
              have := OwnL.grown (L := M) (v := sl) (w := wr) (w' := w2) (B := w.heap.size) (g := g) (by unfold OwnL; rw [HM.out]; exact HOw.out) g2 hg2
              unfold OwnL at this
              rw [HM.out] at this
              exact this)
            have hsz : w.heap.size ≤ w2.heap.size := HW2.out.2.size
            clear q2 g2 HT HW HOw
            go_wp2_with (at_builtin; refine wpList_append_own _ rfl _ _ 23 rfl w.heap.size 9 i0 (.string ⟨#[]⟩) 1 16 Try.underlying23 hi hz0 hz1 hz2 rfl (by decide) _ _ _ rfl (HO2.out.alloc _) ⟨w2.heap.size, 0, none⟩ 1 1 [.string TS] rfl rfl ?c1 ?c2 ?c3 ?c4 ?c5 ?_)
            case c1 => exact new_str _ _
            case c2 => intro u hu; simp at hu; subst hu; rfl
            case c3 => unfold maxLen; omega
            case c4 => omega
            case c5 => simp; omega
            intro z' w3 hown' hgrow _
            have HW3 : Hid (RdAt w3 g r3 ∧ w.grownBy w3 (some g)) := by
              have hne : sl.ownBlock ≠ some g := fun he => by have := (World.ownsRow.lt HO2.out _ he).1; omega
              have hblk : ∀ i, i < w2.heap.size → some i ≠ sl.ownBlock → w3.heap[i]? = w2.heap[i]? := fun i hi hn => (hgrow.block i (by simp; omega) hn).trans (Below.heap_alloc w2 _ i hi)
              refine Lib.hid ⟨Blk.same HW2.out.1 (hblk g (by omega) (Ne.symm hne)), ⟨hgrow.os.trans HW2.out.2.os, hgrow.tape.trans HW2.out.2.tape, hgrow.output.trans HW2.out.2.output, Nat.le_trans HW2.out.2.size (by have := hgrow.size; simp at this; omega), fun i hi hn => ?_⟩⟩
              rw [hblk i (by omega) (fun he => by have := (World.ownsRow.lt HO2.out _ he.symm).1; omega)]
              exact HW2.out.2.block i hi hn
            have HO3 : Hid (OwnL w.heap.size (M ++ [S1]) z' w3) := Lib.hid (by
              unfold OwnL
              rw [List.length_append, HM.out]
              have e : strsV (M ++ [S1]) = strsV M ++ [.string TS] := by rw [HTS.out]; simp [strsV]
              rw [e]
              exact hown')
            clear hown' hgrow HO2 HW2 hsz HTS HM
            go_wp2
            go_roundw
            case rel => exact ⟨k + 1, M ++ [S1], r3, z', by omega, by go_num, rfl, HK2, HW3, HO3⟩
            case measure => simp [intOf]; omega
          · rw [if_pos h3] at hkR
            have hb : (E3 != 0) = true := by rw [bne_iff_ne]; exact h3
            have HF : Hid (OUT = ([], ⟨r.S, E3⟩)) := Lib.hid (by
              rw [HOUT.out, hkR]
              simp only [← hE3]
              rw [if_pos h3])
            clear h3 hkR hl3 hr3 hS1 hM hk0 hkS HK HO hTS HOUT
            go_wp2_with fail
            refine HT.out.mono ?_; rintro x w2 ⟨rfl, q2, g2⟩
            have HG := Lib.hid (HW.out.2.trans g2)
            obtain ⟨c0, c1, f0, f1⟩ := q2.cells
            have HS := Lib.hid (q2.setS r.S)
            rw [← HTT.out, ← hE3] at HS
            clear q2 g2 HT HW hE3
            go_wp2
            go_ret2
            refine ⟨.slice none 0 0, ?_, ?_, ?_, HG.out.trans (grown_set _ _ _ _)⟩
            · rw [HF.out]; rfl
            · rw [HF.out]; exact ownL_nil _ _
            · rw [HF.out]; exact HS.out
        · have HF : Hid (OUT = (M, rk)) := Lib.hid (by
            obtain ⟨hM, hk0, hkS, hkR⟩ := HK.out
            rw [show N - k = 0 by omega, textsN] at hkR
            rw [HOUT.out, hkR]
            simp [hk0])
          have HE0 : Hid (rk.E = 0) := Lib.hid HK.out.2.1
          have hd : decide (k < N) = false := decide_eq_false hlt
          obtain ⟨a, nn, c, hsl⟩ := OwnL.slice HO.out
          clear hlt HK HOUT
          subst hsl
          go_wp2
          go_ret2
          refine ⟨.slice a nn c, ?_, ?_, ?_, HW.out.2⟩
          · rw [HF.out]; simp only; rw [HE0.out]; rfl
          · rw [HF.out]; exact HO.out
          · rw [HF.out]; exact HW.out.1
  · rw [if_pos h1]
    obtain ⟨E2, hE2⟩ : ∃ E2, E2 = r2.E := ⟨_, rfl⟩
    rw [← hE2] at HN h1
    have HE2 := Lib.hid hE2
    have hb : (E2 != 0) = true := by rw [bne_iff_ne]; exact h1
    clear hback hE0 hlen h1 hN hr2 hE2 hT hS h
    go_enter Try.func24, Try.ntmps24
    go_wp2_with fail
    refine HN.out.mono ?_; rintro x w1 ⟨rfl, q1, g1⟩
    have HH := Lib.hid (And.intro q1 g1)
    clear q1 g1 HN
    go_wp2
    go_ret2
    exact ⟨_, by rw [← HE2.out]; rfl, ownL_nil _ _, HH.out.1, HH.out.2⟩
end
end Go.Proofs.Ytijfdnaolgbpmaa
