/- InsnAll walked. -/
import Derived.Test.YtillcbmjpcbpaaaDoorJA
import Derived.Test.YtillcbmjpcbpaaaDoorIL
import Derived.Laws.AppendOwn
import Derived.Laws.AppendOwnNone
import Derived.Laws.OwnMore
import Derived.Deep.QuietTactic
import Derived.BigQuiet
set_option linter.unusedVariables false
set_option linter.unusedSimpArgs false
namespace Go.Proofs.YtillcbmjpcbpaaaDoor
open Go.RowKit

def flat (l : List Ins) : List Value := l.flatMap Ins.cells
theorem cells_length (x : Ins) : x.cells.length = 5 := rfl
theorem flat_length (l : List Ins) : (flat l).length = l.length * 5 := by
  induction l with
  | nil => rfl
  | cons x l ih =>
    unfold flat at *
    rw [List.flatMap_cons, List.length_append, ih, List.length_cons, cells_length]; omega
theorem flat_at (l : List Ins) : ∀ (k : Nat) (hk : k < l.length) (r : Nat) (hr : r < 5), (flat l)[k * 5 + r]? = (l.getD k Ins.nought).cells[r]? := by
  induction l with
  | nil => intro k hk; simp at hk
  | cons x l ih =>
    intro k hk r hr
    have e : flat (x :: l) = x.cells ++ flat l := by unfold flat; rw [List.flatMap_cons]
    rw [e]
    rcases k with _ | k
    · rw [List.getElem?_append_left (by rw [cells_length]; omega)]
      simp
    · rw [List.getElem?_append_right (by rw [cells_length]; omega), cells_length, show (k + 1) * 5 + r - 5 = k * 5 + r by omega, ih k (by simpa using hk) r hr]
      simp
theorem flat_one (l : List Ins) : ∀ u ∈ flat l, u.oneCell' = true := by
  intro u hu
  unfold flat at hu
  rw [List.mem_flatMap] at hu
  obtain ⟨x, _, hx⟩ := hu
  simp only [Ins.cells, List.mem_cons, List.not_mem_nil, or_false] at hx
  rcases hx with rfl | rfl | rfl | rfl | rfl <;> rfl
theorem Lie.news {w : World} {g o : Nat} {l : List Ins} (h : Lie w g o l) : ∀ j u, (flat l)[j]? = some u → w.cell? ((⟨g, o, none⟩ : Addr).add j) = some u := by
  intro j u hj
  have hlt : j < l.length * 5 := by
    rw [← flat_length]
    exact (List.getElem?_eq_some_iff.1 hj).1
  have e : j = j / 5 * 5 + j % 5 := by omega
  rw [e, flat_at l (j / 5) (by omega) (j % 5) (by omega)] at hj
  rw [Addr.add_mid]
  have := h (j / 5) (by omega) (j % 5) u hj
  rw [← this]
  congr 2
  omega
theorem Lie.owned {w : World} {B g cap : Nat} {l : List Ins} (h : w.ownsRow B 24 5 (.slice (some ⟨g, 0, none⟩) l.length cap) l.length (flat l)) : Lie w g 0 l := by
  intro k hk j v hv
  have hj : j < 5 := by
    have := (List.getElem?_eq_some_iff.1 hv).1
    rwa [cells_length] at this
  have := h.cells (g := g) rfl (k * 5 + j) v (by rw [flat_at l k hk j hj]; exact hv)
  rw [Addr.add_mid] at this
  rw [← this]
  congr 2
  omega
theorem infoInsn : (Tryd.prog.info? 24).map (fun i => (i.zero, i.size, i.bytes)) = some (some (.agg #[.int .u8 0, .int .u8 0, .int .u8 0, .int .u8 0, .int .u32 0]), 5, 8) := by kernel_rfl

/-- What stands all through InsnAll: the table, the list, the list's copy, all that was there before. -/
def LInv (w : World) (g o g' : Nat) (l : List Ins) (wi : World) : Prop := Tabled wi ∧ Below w.heap.size w wi ∧ (Lie wi g o l ∧ g < wi.heap.size) ∧ (Lie wi g' 0 l ∧ g' < wi.heap.size)
theorem LInv.step {w wi wj : World} {g o g' : Nat} {l : List Ins} (h : LInv w g o g' l wi) (q : Below wi.heap.size wi wj) : LInv w g o g' l wj :=
  ⟨h.1.below q, h.2.1.trans (q.mono h.2.1.size), ⟨h.2.2.1.1.same q h.2.2.1.2, Nat.lt_of_lt_of_le h.2.2.1.2 q.size⟩, ⟨h.2.2.2.1.same q h.2.2.2.2, Nat.lt_of_lt_of_le h.2.2.2.2 q.size⟩⟩
theorem LInv.drewN {w wi : World} {g o g' : Nat} {l : List Ins} (h : LInv w g o g' l wi) (n : Nat) : LInv w g o g' l (wi.drewN n) := h.step ⟨rfl, rfl, rfl, Nat.le_refl _, fun _ _ => rfl⟩

set_option maxHeartbeats 8000000 in
set_option maxRecDepth 100000 in
theorem all_law_yes (l : List Ins) (g o c : Nat) (w : World) (hl : l.length ≤ 300) (h0 : 0 < l.length) (hk : Tabled w) (hg : g < w.heap.size) (hL : Lie w g o l) (hF : ∀ k, k < l.length → (l.getD k Ins.nought).fits)
    (S0 : ByteArray) (HS0 : Hid (S0 = ⟨(cat l).toArray⟩)) (HA : Hid (allOk l = true))
    (HAll : Hid (∀ g' c' w, Tabled w → g' < w.heap.size → Lie w g' 0 l → Calls Tryd.prog 14 #[.slice (some ⟨g', 0, none⟩) l.length c'] w fun e w' => e = .returned (.tuple #[.string S0, .int .i64 0]) ∧ Below w.heap.size w w')) :
    Calls Tryd.prog 4 #[.slice (some ⟨g, o, none⟩) l.length c] w fun e w' => e = .returned (.bool true) ∧ Below w.heap.size w w' := by
  obtain ⟨i0, hi, hz0, hz1, hz2⟩ := info_parts infoInsn
  have HK := Lib.hid hk
  have HL := Lib.hid hL
  have HF := Lib.hid hF
  have hl' : (l.length : Int) ≤ 300 := by omega
  clear hk hL hF
  go_enter Tryd.func4, Tryd.ntmps4
  go_wp2_with (at_builtin; refine wpList_append_own _ rfl _ _ 39 rfl w.heap.size 24 i0 (.agg #[.int .u8 0, .int .u8 0, .int .u8 0, .int .u8 0, .int .u32 0]) 5 8 Tryd.underlying39 hi hz0 hz1 hz2 rfl (by decide) _ 0 [] rfl (World.ownsRow_nil _ _ _ _) ⟨g, o, none⟩ l.length c (flat l) rfl (flat_length l) HL.out.news (flat_one l) ?c3 ?c4 ?c5 ?_)
  case c3 => unfold maxLen; omega
  case c4 => omega
  case c5 => exact Nat.le_refl _
  intro v' w1 hown hgrow hnil
  have hb1 : Below w.heap.size w w1 := (Below.refl _ _).grown hgrow (Nat.le_refl _) (fun k hk => by cases hk)
  obtain ⟨g', c', rfl⟩ : ∃ g' c', v' = .slice (some ⟨g', 0, none⟩) l.length c' := by
    rcases hown.2 with ⟨_, hz⟩ | ⟨g', c', cur, hv, _⟩
    · omega
    · exact ⟨g', c', by simpa using hv⟩
  have hg' : g' < w1.heap.size := (hown.lt g' rfl).2
  have hown2 : w1.ownsRow w.heap.size 24 5 (.slice (some ⟨g', 0, none⟩) l.length c') l.length (flat l) := by simpa using hown
  have I1 : Hid (LInv w g o g' l w1) := Lib.hid ⟨HK.out.below hb1, hb1, ⟨HL.out.below hb1 hg, Nat.lt_of_lt_of_le hg hb1.size⟩, ⟨Lie.owned hown2, hg'⟩⟩
  clear hown hown2 hgrow hnil hb1 HK HL hi hz0 hz1 hz2 hg'
  go_wp2_with fail
  refine (HAll.out g' c' w1 I1.out.1 I1.out.2.2.2.2 I1.out.2.2.2.1).mono ?_
  rintro e w2 ⟨rfl, q⟩
  have I2 := Lib.hid (I1.out.step q)
  clear q I1 HAll
  go_wp2_with fail
  go_loopw [6, 7] (fun wv i wr => ∃ (k : Nat) (W : ByteArray), k ≤ l.length ∧ i = .int .i64 k ∧ wv = .string W ∧ Hid (W = ⟨(cat (l.take k)).toArray⟩) ∧ Hid (allOk (l.take k) = true) ∧ (W.size : Int) ≤ 2400 ∧ Hid (LInv w g o g' l wr)) (fun _ i _ => l.length - (intOf i).toNat)
  case atStart => exact ⟨0, ⟨#[]⟩, Nat.zero_le _, rfl, rfl, Lib.hid rfl, Lib.hid rfl, by decide, I2⟩
  case round =>
    obtain ⟨k, W, hk, rfl, rfl, hW, hO, hWs, I3⟩ := hrel
    clear I2
    by_cases hlt : k < l.length
    · obtain ⟨⟨op, d, a, b, im⟩, hx⟩ : ∃ x, l.getD k Ins.nought = x := ⟨_, rfl⟩
      have HX := Lib.hid hx
      have hf := HF.out k hlt
      have hot := ok_take l k hlt
      have hct := cat_take l k hlt
      rw [hx] at hf hot hct
      obtain ⟨⟨h0', h1⟩, ⟨d0, d1⟩, ⟨a0, a1⟩, ⟨b0, b1⟩, ⟨i0', i1⟩⟩ := hf
      obtain ⟨x0, x1, x2, x3, x4⟩ := I3.out.2.2.1.1.five k hlt hx
      have HE := Lib.hid (iencode_any op d a b im h0' h1 d0 d1 a0 a1 b0 b1 i0' i1 wr I3.out.1)
      have k0 : (0 : Int) ≤ (k : Int) := by omega
      have k1 : (k : Int) < (l.length : Int) := by omega
      by_cases hok : Ix.insnOk op d a b im = true
      · have HT : Hid (allOk (l.take (k + 1)) = true) := Lib.hid (by rw [hot, hO.out]; exact hok)
        have HC : Hid (W ++ encS op d a b im = ⟨(cat (l.take (k + 1))).toArray⟩) := by
          refine Lib.hid ?_
          rw [hct, hW.out]
          have e : encS op d a b im = ⟨(Ix.bytes op d a b im).toArray⟩ := by unfold encS; rw [Ix.enc_of_ok hok]
          rw [e]
          apply ByteArray.ext
          rw [ByteArray.data_append]
          simp [Ins.bytes]
        have hsz : ((encS op d a b im).size : Int) = 8 := by
          show (((bt (encS op d a b im)).length : Nat) : Int) = 8
          unfold bt encS
          rw [Ix.enc_of_ok hok, Ix.bytes_length]
          rfl
        have hW8 : (W.size : Int) + 8 ≤ 2400 := by
          have := congrArg ByteArray.size hW.out
          have e : (⟨(cat (l.take k)).toArray⟩ : ByteArray).size = (cat (l.take k)).length := by simp [ByteArray.size]
          rw [e, cat_length, List.length_take] at this
          omega
        have hS8 : ((encS op d a b im).size : Int) ≤ 8 := by omega
        have HS8 := Lib.hid hsz
        clear hsz
        rw [errI_yes _ _ _ _ _ hok] at HE
        clear hx hot hct hO hok
        generalize encS op d a b im = S at *
        go_wp2_with fail
        refine HE.out.mono ?_
        rintro e w3 ⟨rfl, q⟩
        have I4 := Lib.hid (I3.out.step q)
        clear q I3 HE x0 x1 x2 x3 x4
        obtain ⟨x0, x1, x2, x3, x4⟩ := I4.out.2.2.1.1.five k hlt HX.out
        have z := I4.out.2.2.2.1.five k hlt HX.out
        simp only [Nat.zero_add] at z
        obtain ⟨y0, y1, y2, y3, y4⟩ := z
        go_wp2_with fail
        go_quiet (fail)
        go_wp2
        go_roundw
        case rel => exact ⟨k + 1, _, by omega, by go_num, rfl, HC, HT, by rw [ByteArray.size_append]; have := HS8.out; omega, Lib.hid (I4.out.drewN _)⟩
        case measure => simp [intOf]; omega
      · exact absurd ((ok_none l k hlt (by rw [HX.out]; simpa [Ins.ok] using hok)).symm.trans HA.out) (by decide)
    · have hkk : l.take k = l := List.take_of_length_le (by omega)
      have HW0 : Hid (W = S0) := Lib.hid (by rw [hW.out, hkk, HS0.out])
      have t8 : ((S0.size : Int) == 8 * (l.length : Int)) = true := by
        rw [HS0.out, beq_iff_eq]
        have e : (⟨(cat l).toArray⟩ : ByteArray).size = (cat l).length := by simp [ByteArray.size]
        rw [e, cat_length]
        omega
      clear hkk hW hO
      obtain rfl := HW0.out
      clear HW0
      go_wp2_with fail
      refine (alive_any _ I3.out.1).mono ?_
      rintro e w6 ⟨rfl, q⟩
      have I6 := Lib.hid (I3.out.step q)
      clear q I3
      go_wp2
      go_ret
      exact ⟨rfl, I6.out.2.1⟩

set_option maxHeartbeats 8000000 in
set_option maxRecDepth 100000 in
theorem all_law_no (l : List Ins) (g o c : Nat) (w : World) (hl : l.length ≤ 300) (h0 : 0 < l.length) (hk : Tabled w) (hg : g < w.heap.size) (hL : Lie w g o l) (hF : ∀ k, k < l.length → (l.getD k Ins.nought).fits)
    (HA : Hid (allOk l = false))
    (HAll : Hid (∀ g' c' w, Tabled w → g' < w.heap.size → Lie w g' 0 l → Calls Tryd.prog 14 #[.slice (some ⟨g', 0, none⟩) l.length c'] w fun e w' => e = .returned (.tuple #[.string ⟨#[]⟩, .int .i64 2]) ∧ Below w.heap.size w w')) :
    Calls Tryd.prog 4 #[.slice (some ⟨g, o, none⟩) l.length c] w fun e w' => e = .returned (.bool true) ∧ Below w.heap.size w w' := by
  obtain ⟨i0, hi, hz0, hz1, hz2⟩ := info_parts infoInsn
  have HK := Lib.hid hk
  have HL := Lib.hid hL
  have HF := Lib.hid hF
  have hl' : (l.length : Int) ≤ 300 := by omega
  clear hk hL hF
  go_enter Tryd.func4, Tryd.ntmps4
  go_wp2_with (at_builtin; refine wpList_append_own _ rfl _ _ 39 rfl w.heap.size 24 i0 (.agg #[.int .u8 0, .int .u8 0, .int .u8 0, .int .u8 0, .int .u32 0]) 5 8 Tryd.underlying39 hi hz0 hz1 hz2 rfl (by decide) _ 0 [] rfl (World.ownsRow_nil _ _ _ _) ⟨g, o, none⟩ l.length c (flat l) rfl (flat_length l) HL.out.news (flat_one l) ?c3 ?c4 ?c5 ?_)
  case c3 => unfold maxLen; omega
  case c4 => omega
  case c5 => exact Nat.le_refl _
  intro v' w1 hown hgrow hnil
  have hb1 : Below w.heap.size w w1 := (Below.refl _ _).grown hgrow (Nat.le_refl _) (fun k hk => by cases hk)
  obtain ⟨g', c', rfl⟩ : ∃ g' c', v' = .slice (some ⟨g', 0, none⟩) l.length c' := by
    rcases hown.2 with ⟨_, hz⟩ | ⟨g', c', cur, hv, _⟩
    · omega
    · exact ⟨g', c', by simpa using hv⟩
  have hg' : g' < w1.heap.size := (hown.lt g' rfl).2
  have hown2 : w1.ownsRow w.heap.size 24 5 (.slice (some ⟨g', 0, none⟩) l.length c') l.length (flat l) := by simpa using hown
  have I1 : Hid (LInv w g o g' l w1) := Lib.hid ⟨HK.out.below hb1, hb1, ⟨HL.out.below hb1 hg, Nat.lt_of_lt_of_le hg hb1.size⟩, ⟨Lie.owned hown2, hg'⟩⟩
  clear hown hown2 hgrow hnil hb1 HK HL hi hz0 hz1 hz2 hg'
  go_wp2_with fail
  refine (HAll.out g' c' w1 I1.out.1 I1.out.2.2.2.2 I1.out.2.2.2.1).mono ?_
  rintro e w2 ⟨rfl, q⟩
  have I2 := Lib.hid (I1.out.step q)
  clear q I1 HAll
  go_wp2_with fail
  go_loopw [6, 7] (fun wv i wr => ∃ (k : Nat) (W : ByteArray), k ≤ l.length ∧ i = .int .i64 k ∧ wv = .string W ∧ Hid (W = ⟨(cat (l.take k)).toArray⟩) ∧ Hid (allOk (l.take k) = true) ∧ (W.size : Int) ≤ 2400 ∧ Hid (LInv w g o g' l wr)) (fun _ i _ => l.length - (intOf i).toNat)
  case atStart => exact ⟨0, ⟨#[]⟩, Nat.zero_le _, rfl, rfl, Lib.hid rfl, Lib.hid rfl, by decide, I2⟩
  case round =>
    obtain ⟨k, W, hk, rfl, rfl, hW, hO, hWs, I3⟩ := hrel
    clear I2
    by_cases hlt : k < l.length
    · obtain ⟨⟨op, d, a, b, im⟩, hx⟩ : ∃ x, l.getD k Ins.nought = x := ⟨_, rfl⟩
      have HX := Lib.hid hx
      have hf := HF.out k hlt
      have hot := ok_take l k hlt
      have hct := cat_take l k hlt
      rw [hx] at hf hot hct
      obtain ⟨⟨h0', h1⟩, ⟨d0, d1⟩, ⟨a0, a1⟩, ⟨b0, b1⟩, ⟨i0', i1⟩⟩ := hf
      obtain ⟨x0, x1, x2, x3, x4⟩ := I3.out.2.2.1.1.five k hlt hx
      have HE := Lib.hid (iencode_any op d a b im h0' h1 d0 d1 a0 a1 b0 b1 i0' i1 wr I3.out.1)
      have k0 : (0 : Int) ≤ (k : Int) := by omega
      have k1 : (k : Int) < (l.length : Int) := by omega
      by_cases hok : Ix.insnOk op d a b im = true
      · have HT : Hid (allOk (l.take (k + 1)) = true) := Lib.hid (by rw [hot, hO.out]; exact hok)
        have HC : Hid (W ++ encS op d a b im = ⟨(cat (l.take (k + 1))).toArray⟩) := by
          refine Lib.hid ?_
          rw [hct, hW.out]
          have e : encS op d a b im = ⟨(Ix.bytes op d a b im).toArray⟩ := by unfold encS; rw [Ix.enc_of_ok hok]
          rw [e]
          apply ByteArray.ext
          rw [ByteArray.data_append]
          simp [Ins.bytes]
        have hsz : ((encS op d a b im).size : Int) = 8 := by
          show (((bt (encS op d a b im)).length : Nat) : Int) = 8
          unfold bt encS
          rw [Ix.enc_of_ok hok, Ix.bytes_length]
          rfl
        have hW8 : (W.size : Int) + 8 ≤ 2400 := by
          have := congrArg ByteArray.size hW.out
          have e : (⟨(cat (l.take k)).toArray⟩ : ByteArray).size = (cat (l.take k)).length := by simp [ByteArray.size]
          rw [e, cat_length, List.length_take] at this
          omega
        have hS8 : ((encS op d a b im).size : Int) ≤ 8 := by omega
        have HS8 := Lib.hid hsz
        clear hsz
        rw [errI_yes _ _ _ _ _ hok] at HE
        clear hx hot hct hO hok
        generalize encS op d a b im = S at *
        go_wp2_with fail
        refine HE.out.mono ?_
        rintro e w3 ⟨rfl, q⟩
        have I4 := Lib.hid (I3.out.step q)
        clear q I3 HE x0 x1 x2 x3 x4
        obtain ⟨x0, x1, x2, x3, x4⟩ := I4.out.2.2.1.1.five k hlt HX.out
        have z := I4.out.2.2.2.1.five k hlt HX.out
        simp only [Nat.zero_add] at z
        obtain ⟨y0, y1, y2, y3, y4⟩ := z
        go_wp2_with fail
        go_quiet (fail)
        go_wp2
        go_roundw
        case rel => exact ⟨k + 1, _, by omega, by go_num, rfl, HC, HT, by rw [ByteArray.size_append]; have := HS8.out; omega, Lib.hid (I4.out.drewN _)⟩
        case measure => simp [intOf]; omega
      · have hok' : Ix.insnOk op d a b im = false := by simpa using hok
        rw [errI_no _ _ _ _ _ hok'] at HE
        clear hok'
        clear hx hot hct hO hok
        generalize encS op d a b im = S at *
        go_wp2_with fail
        refine HE.out.mono ?_
        rintro e w3 ⟨rfl, q⟩
        have I4 := Lib.hid (I3.out.step q)
        clear q I3 HE x0 x1 x2 x3 x4
        obtain ⟨x0, x1, x2, x3, x4⟩ := I4.out.2.2.1.1.five k hlt HX.out
        have z := I4.out.2.2.2.1.five k hlt HX.out
        simp only [Nat.zero_add] at z
        obtain ⟨y0, y1, y2, y3, y4⟩ := z
        go_wp2_with fail
        go_quiet (fail)
        have I5 := Lib.hid (I4.out.drewN nq)
        clear I4 x0 x1 x2 x3 x4 y0 y1 y2 y3 y4
        go_wp2_with fail
        refine (alive_any _ I5.out.1).mono ?_
        rintro e w6 ⟨rfl, q⟩
        have I6 := Lib.hid (I5.out.step q)
        clear q I5
        go_wp2
        go_ret
        exact ⟨rfl, I6.out.2.1⟩
    · have hkk : l.take k = l := List.take_of_length_le (by omega)
      have ho := hO.out
      rw [hkk] at ho
      exact absurd (ho.symm.trans HA.out) (by decide)
end Go.Proofs.YtillcbmjpcbpaaaDoor
