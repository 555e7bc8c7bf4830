/- DemandOrder, walked. (written by mk_el.py) -/
import Derived.Test.YtmfebmiigkmkbaaEK
set_option linter.unusedVariables false
set_option linter.unusedSimpArgs false
namespace Go.Proofs.Ytmfebmiigkmkbaa
open Go Go.RowKit Oj Dm

/-- The first k notes of l, turned by T. -/
def rotN (l : List Nt) (T k : Nat) : List Nt := (List.range k).map fun i => l.getD ((i + T) % l.length) Nt.nought
theorem rot_succ (l : List Nt) (T k : Nat) : rotN l T (k + 1) = rotN l T k ++ [l.getD ((k + T) % l.length) Nt.nought] := by unfold rotN; rw [List.range_succ, List.map_append]; rfl
theorem rot_len (l : List Nt) (T k : Nat) : (rotN l T k).length = k := by simp [rotN]
theorem rot_mem {l : List Nt} {T k : Nat} {n : Nt} (h : n ∈ rotN l T k) (hl : 0 < l.length) : n ∈ l := by
  unfold rotN at h
  obtain ⟨i, _, rfl⟩ := List.mem_map.1 h
  exact (mem_at Nt.nought).2 ⟨_, Nat.mod_lt _ hl, rfl⟩
theorem rot_of {l : List Nt} (hf : ntsFit l) (T k : Nat) (hl : 0 < l.length) (hk : k ≤ l.length) (h100 : l.length ≤ 1000) : ntsFit (rotN l T k ++ l) ∧ ofR (rotN l T k ++ l) = ofR l := by
  have hm : ∀ n, n ∈ rotN l T k ++ l ↔ n ∈ l := fun n => by
    rw [List.mem_append]
    exact ⟨fun h => h.elim (fun h => rot_mem h hl) id, .inr⟩
  have h1 : ntsFit (rotN l T k ++ l) := fit_sub hf (by rw [List.length_append, rot_len]; omega) (fun n hn => (hm n).1 hn)
  exact ⟨h1, of_same h1 hf hm⟩
theorem take_get (l : List Nt) {k j : Nat} (hj : j < k) : (l.take k).getD j Nt.nought = l.getD j Nt.nought := by
  rw [List.getD_eq_getElem?_getD, List.getD_eq_getElem?_getD, List.getElem?_take_of_lt hj]
theorem drop_get (l : List Nt) (k j : Nat) : (l.drop k).getD j Nt.nought = l.getD (k + j) Nt.nought := by
  rw [List.getD_eq_getElem?_getD, List.getD_eq_getElem?_getD, List.getElem?_drop]
theorem notes_take {w : World} {b o c n k : Nat} {l : List Nt} (hb : b < w.heap.size) (hn : n = l.length) (hcl : ∀ j, j < n → LieC w b (o + j * 3) (ntCells (l.getD j Nt.nought))) (hk : k ≤ n) : NotesAt w (.slice (some ⟨b, o, none⟩) k c) (l.take k) := by
  have hlen : (l.take k).length = k := by rw [List.length_take]; omega
  refine ⟨_, _, by rw [hlen], fun _ => ⟨b, o, rfl, hb, fun j hj => ?_⟩⟩
  rw [hlen] at hj
  show LieC w b (o + j * 3) (ntCells ((l.take k).getD j Nt.nought))
  rw [take_get l hj]
  exact hcl j (by omega)
theorem notes_drop {w : World} {b o c n k : Nat} {l : List Nt} (hb : b < w.heap.size) (hn : n = l.length) (hcl : ∀ j, j < n → LieC w b (o + j * 3) (ntCells (l.getD j Nt.nought))) (hk : k ≤ n) : NotesAt w (.slice (some ⟨b, o + k * 3, none⟩) (n - k) (c - k)) (l.drop k) := by
  have hlen : (l.drop k).length = n - k := by rw [List.length_drop]; omega
  refine ⟨_, _, by rw [hlen], fun _ => ⟨b, o + k * 3, rfl, hb, fun j hj => ?_⟩⟩
  rw [hlen] at hj
  show LieC w b (o + k * 3 + j * 3) (ntCells ((l.drop k).getD j Nt.nought))
  rw [drop_get, show o + k * 3 + j * 3 = o + (k + j) * 3 by rw [Nat.add_mul]; omega]
  exact hcl (k + j) (by omega)

theorem lit_agg3 {w : World} {a0 a1 a2 a3 b0 b1 b2 b3 c0 c1 c2 c3 : Value} {m1 m2 m3 : Mf} (h1 : MfAt w (.agg #[a0, a1, a2, a3]) m1) (h2 : MfAt w (.agg #[b0, b1, b2, b3]) m2) (h3 : MfAt w (.agg #[c0, c1, c2, c3]) m3) : MfsAt (w.alloc (.cells #[a0, a1, a2, a3, b0, b1, b2, b3, c0, c1, c2, c3] 26)) (.slice (some ⟨w.heap.size, 0, none⟩) 3 3) [m1, m2, m3] := by
  obtain ⟨v1, v2, e1, x1, p1⟩ := h1
  obtain ⟨v3, v4, e2, x2, p2⟩ := h2
  obtain ⟨v5, v6, e3, x3, p3⟩ := h3
  unfold mfV at e1 e2 e3
  simp only [Value.agg.injEq, Array.mk.injEq, List.cons.injEq, and_true] at e1 e2 e3
  obtain ⟨rfl, rfl, rfl, rfl⟩ := e1
  obtain ⟨rfl, rfl, rfl, rfl⟩ := e2
  obtain ⟨rfl, rfl, rfl, rfl⟩ := e3
  exact lit_mfs w [(m1, a1, a2), (m2, b1, b2), (m3, c1, c2)] (fun t ht => by
    simp only [List.mem_cons, List.not_mem_nil, or_false] at ht
    rcases ht with rfl | rfl | rfl
    · exact ⟨x1, p1⟩
    · exact ⟨x2, p2⟩
    · exact ⟨x3, p3⟩) (show 3 ≤ maxLen by simp [maxLen])

set_option maxHeartbeats 32000000 in
set_option maxRecDepth 100000 in
theorem order_pos (vl : Value) (l : List Nt) (A T : Nat) (hA8 : A < 256) (hT8 : T < 256) (w : World) (hA : NotesAt w vl l) (hW : Wf vl) (hf : ntsFit l) (hl0 : 0 < l.length) (h100 : l.length ≤ 100) : Calls Try.prog 6 #[vl, .int .u8 A, .int .u8 T] w fun e w' => e = .returned (.bool true) ∧ Below w.heap.size w w' := by
  obtain ⟨i0, hi, hz0, hz1, hz2⟩ := info_parts infoNote
  have HI := Lib.hid (And.intro hi (And.intro hz0 (And.intro hz1 hz2)))
  have HAt := Lib.hid (fun W (hq : Below w.heap.size w W) => (hA.below hq : NotesAt W vl l))
  have HF := Lib.hid hf
  obtain ⟨a, c, rfl, h3⟩ := hA
  obtain ⟨b, o, rfl, hbl, hcl⟩ := h3 hl0
  have hnc : l.length ≤ c := by
    rcases hW with h | ⟨ad, n, c', h, h1, _⟩
    · cases h
    · injection h with _ h2 h3; omega
  obtain ⟨n, hn⟩ : ∃ n, n = l.length := ⟨_, rfl⟩
  rw [← hn] at hcl hnc hl0 h100 HAt ⊢
  have hci : (n : Int) ≤ (c : Int) := by omega
  have hni : (n : Int) ≤ 100 := by omega
  have hn0 : (0 : Int) < (n : Int) := by omega
  have HN := Lib.hid hn
  have HCl := Lib.hid hcl
  have HOf := Lib.hid (of_any _ l _ (HAt.out _ (Below.refl _ _)) hf (by omega))
  obtain ⟨U, hU⟩ : ∃ U, U = (ofR l).1 := ⟨_, rfl⟩
  obtain ⟨E, hE⟩ : ∃ E, E = (ofR l).2 := ⟨_, rfl⟩
  have HUE : Hid (ofR l = (U, E)) := Lib.hid (by rw [hU, hE])
  have HFU : Hid (mfFits U) := Lib.hid (by rw [hU]; exact of_fits hf)
  unfold MPost at HOf
  rw [← hU, ← hE] at HOf
  clear hi hz0 hz1 hz2 h3 hn hcl hW hf hU hE
  go_enter Try.func6, Try.ntmps6
  go_wp2_with fail
  refine HOf.out.mono ?_; rintro e w3 ⟨vU, rfl, hO, q3⟩
  have HB3 := Lib.hid q3
  have HU3 := Lib.hid hO.at
  obtain ⟨P, ax, nx, cx, ap, np, cp, C, hvU⟩ := hO.open
  subst hvU
  clear q3 hO HOf
  go_upto_region 4 with (fail)
  refine wp_named ?_; intro w4 hw4
  obtain ⟨g, hg⟩ : ∃ g, g = w3.heap.size := ⟨_, rfl⟩
  have HG4 : Hid (Blk w4 g 26 [.int .u32 P, .slice ax nx cx, .slice ap np cp, .bool C]) := Lib.hid (by rw [hw4, hg]; exact Blk.new w3 26 _)
  have HB34 : Hid (Below w3.heap.size w3 w4) := Lib.hid (by rw [hw4]; exact below_new1 w3 _)
  have HB4 : Hid (Below w.heap.size w w4) := Lib.hid (below_call HB3.out HB34.out)
  have HU4 := Lib.hid (HU3.out.below HB34.out)
  rw [← hg]
  clear hw4 hg HB3 HB34 HU3
  go_wp2_with fail
  go_loopw [9, 10] (fun s i wr => ∃ (k : Nat) (a4 : Option Addr) (n4 c4 : Nat), (k : Int) ≤ n ∧ i = .int .i64 k ∧ s = .slice a4 n4 c4 ∧ Hid (OwnN wr w4.heap.size (.slice a4 n4 c4) (rotN l T k)) ∧ Hid (Below w4.heap.size w4 wr)) (fun _ i _ => n - (intOf i).toNat)
  case atStart => exact ⟨0, none, 0, 0, by omega, rfl, rfl, Lib.hid (World.ownsRow_nil _ _ _ _), Lib.hid (Below.refl _ _)⟩
  case round =>
    obtain ⟨k, a4, n4, c4, hk, rfl, rfl, HO, HB⟩ := hrel
    by_cases hlt : k < n
    · have hd : decide (k < n) = true := decide_eq_true hlt
      have HBw : Hid (Below w.heap.size w wr) := Lib.hid (below_call HB4.out HB.out)
      obtain ⟨r, hr⟩ : ∃ r, r = (k + T) % n := ⟨_, rfl⟩
      have hrn : r < n := by rw [hr]; exact Nat.mod_lt _ hl0
      obtain ⟨c0, c1, c2⟩ := ((HCl.out r hrn).below HBw.out hbl).nt
      have HE : Hid (rotN l T (k + 1) = rotN l T k ++ [⟨(l.getD r Nt.nought).kind, (l.getD r Nt.nought).n, (l.getD r Nt.nought).m⟩]) := Lib.hid (by rw [rot_succ, hr, HN.out])
      obtain ⟨y0, h0⟩ : ∃ y, y = (l.getD r Nt.nought).kind := ⟨_, rfl⟩
      obtain ⟨y1, h1⟩ : ∃ y, y = (l.getD r Nt.nought).n := ⟨_, rfl⟩
      obtain ⟨y2, h2⟩ : ∃ y, y = (l.getD r Nt.nought).m := ⟨_, rfl⟩
      rw [← h0, ← h1, ← h2] at HE
      rw [← h0] at c0
      rw [← h1] at c1
      rw [← h2] at c2
      have hw1 : IntKind.i64.wrap (T : Int) = (T : Int) := by rw [IntKind.wrap_i64]; omega
      have hw2 : IntKind.i64.wrap ((k : Int) + (T : Int)) = (k : Int) + (T : Int) := by rw [IntKind.wrap_i64]; omega
      have hw3 : ((k : Int) + (T : Int)).tmod (n : Int) = (r : Int) := by rw [hr]; norm_cast
      have hw4 : IntKind.i64.wrap (r : Int) = (r : Int) := by rw [IntKind.wrap_i64]; omega
      have hri : (r : Int) < (n : Int) := by omega
      have HKM : Hid ((rotN l T k).length + 1 ≤ maxLen ∧ ((rotN l T k).length + 1) * 12 ≤ 140737488355328) := Lib.hid (by rw [rot_len]; unfold maxLen; omega)
      have HNL : Hid (n4 = k) := Lib.hid (by obtain ⟨_, _, h⟩ := row_sl HO.out; injection h with _ h _; rw [h, rot_len])
      have HBx : Hid (w4.heap.size ≤ (wr.alloc (.cells #[.int .u8 y0, .int .u32 y1, .int .u32 y2] 28)).heap.size) := Lib.hid (below_box HB.out _).size
      clear h0 h1 h2 hr
      go_wp2_with (at_builtin; (refine wpList_append_own _ rfl _ _ 37 rfl w4.heap.size 28 i0 (.agg #[.int .u8 0, .int .u32 0, .int .u32 0]) 3 12 Try.underlying37 HI.out.1 HI.out.2.1 HI.out.2.2.1 HI.out.2.2.2 rfl (by decide)  (.slice a4 n4 c4) (rotN l T k).length _ rfl (World.ownsRow.alloc HO.out _) ⟨wr.heap.size, 0, none⟩ 1 1 [.int .u8 y0, .int .u32 y1, .int .u32 y2] rfl rfl (new3 _ _ _ _) (one3 _ _ _) HKM.out.1 HKM.out.2 HBx.out ?_); intro v1 w1 h6 h7 _)
      have HO1 : Hid (OwnN w1 w4.heap.size v1 (rotN l T (k + 1))) := Lib.hid (by rw [HE.out]; exact OwnN.add h6)
      have HB1 : Hid (Below w4.heap.size w4 w1) := Lib.hid (app_low HB.out HO.out h7)
      obtain ⟨a1, c1, rfl⟩ := row_sl h6
      clear h6 h7
      go_wp2_with fail
      go_roundw
      case rel => exact ⟨k + 1, _, _, _, by omega, by go_num, rfl, HO1, HB1⟩
      case measure => simp [intOf]; omega
    · have hd : decide (k < n) = false := decide_eq_false hlt
      have HGk := Lib.hid (fun W (hq : Below w4.heap.size w4 W) => HG4.out.call hq)
      have HMk := Lib.hid (fun W (hq : Below w4.heap.size w4 W) => HU4.out.below hq)
      obtain rfl : k = n := by omega
      have HB_0 : Hid (Below w.heap.size w wr) := Lib.hid (below_call HB4.out HB.out)
      have HGa_0 := Lib.hid (HG4.out.call HB.out)
      have HMa_0 := Lib.hid (HU4.out.below HB.out)
      have HRo := Lib.hid (rot_of HF.out T k (by rw [← HN.out]; exact hl0) (by rw [← HN.out]; omega) (by rw [← HN.out]; omega))
      have HKM : Hid ((rotN l T k).length + k ≤ maxLen ∧ ((rotN l T k).length + k) * 12 ≤ 140737488355328) := Lib.hid (by rw [rot_len]; unfold maxLen; omega)
      have HNw : Hid (∀ j u, (l.flatMap ntCells)[j]? = some u → wr.cell? ((⟨b, o, none⟩ : Addr).add j) = some u) := Lib.hid (by
        intro m u hm
        rw [← flat_all' ntCells Nt.nought, ← HN.out] at hm
        obtain ⟨j, i', hj, rfl, hi', hu⟩ := flat_at k (z := 3) (fun _ _ => rfl) m u hm
        rw [Addr.add_mid, ← Nat.add_assoc]
        exact (HCl.out j hj).below HB_0.out hbl i' u hu)
      have HOm := HO
      have HBm := HB
      clear HB HO HU4 HG4 hlt
      go_wp2_with (at_builtin; (refine wpList_append_own _ rfl _ _ 37 rfl w4.heap.size 28 i0 (.agg #[.int .u8 0, .int .u32 0, .int .u32 0]) 3 12 Try.underlying37 HI.out.1 HI.out.2.1 HI.out.2.2.1 HI.out.2.2.2 rfl (by decide)  (.slice a4 n4 c4) (rotN l T k).length _ rfl HOm.out ⟨b, o, none⟩ k c (l.flatMap ntCells) rfl (by rw [fm_len nt_len, ← HN.out]) HNw.out (nts_one l) HKM.out.1 HKM.out.2 HBm.out.size ?_); intro v5 w5 h6 h7 _)
      have HO5 : Hid (OwnN w5 w4.heap.size v5 (rotN l T k ++ l)) := Lib.hid (OwnN.join (by rw [← HN.out]; exact h6))
      have HN5 := Lib.hid HO5.out.at
      have HQq : Hid (Below w4.heap.size w4 w5) := Lib.hid (HBm.out.grown h7 HBm.out.size (fun q hq => (World.ownsRow.lt HOm.out q hq).1))
      have HB_1 := Lib.hid (below_call HB4.out HQq.out)
      have HGa_1 := Lib.hid (HGk.out w5 HQq.out)
      have HMa_1 := Lib.hid (HMk.out w5 HQq.out)
      obtain ⟨a5, c5, rfl⟩ := row_sl h6
      clear h6 h7 HQq HBm HOm HNw HKM HGk HMk HB_0 HGa_0 HMa_0
      go_wp2_with fail
      refine (of_any _ (rotN l T k ++ l) _ HN5.out HRo.out.1 (by rw [List.length_append, rot_len, ← HN.out]; omega)).mono ?_; rintro e w6 ⟨vb, he, hO, q6⟩
      rw [HRo.out.2, HUE.out] at he hO
      simp only at he hO
      subst he
      have HB_2 := Lib.hid (below_call HB_1.out (q6))
      have HGa_2 := Lib.hid (HGa_1.out.call (q6))
      have HMa_2 := Lib.hid (HMa_1.out.below (q6))
      clear HB_1 HGa_1 HMa_1
      have HMb_2 := Lib.hid hO.at
      clear q6 HN5 HO5
      obtain ⟨P2, ax2, nx2, cx2, ap2, np2, cp2, C2, hv2⟩ := hO.open
      subst hv2
      clear hO
      go_upto_region 10 with (fail)
      refine wp_named ?_; intro w7 hw7
      obtain ⟨g2, hg2⟩ : ∃ g, g = w6.heap.size := ⟨_, rfl⟩
      have HQb : Hid (Blk w7 g2 26 [.int .u32 P2, .slice ax2 nx2 cx2, .slice ap2 np2 cp2, .bool C2]) := Lib.hid (by rw [hw7, hg2]; exact Blk.new w6 26 _)
      have HQq : Hid (Below w6.heap.size w6 w7) := Lib.hid (by rw [hw7]; exact below_new1 w6 _)
      rw [← hg2]
      clear hw7 hg2
      have HB_3 := Lib.hid (below_call HB_2.out (HQq.out))
      have HGa_3 := Lib.hid (HGa_2.out.call (HQq.out))
      have HMa_3 := Lib.hid (HMa_2.out.below (HQq.out))
      have HMb_3 := Lib.hid (HMb_2.out.below (HQq.out))
      clear HB_2 HGa_2 HMa_2 HMb_2
      have HGb_3 := HQb
      clear HQq HQb
      obtain ⟨s0, s1, s2, s3⟩ := HGa_3.out.four
      obtain ⟨t0, t1, t2, t3⟩ := HGb_3.out.four
      go_wp2_with fail
      refine (same_any _ _ U U _ HMa_3.out HMb_3.out HFU.out HFU.out).mono ?_; rintro e w8 ⟨h8, q8⟩
      rw [decide_eq_true rfl] at h8
      subst h8
      clear s0 s1 s2 s3 t0 t1 t2 t3
      have HB_4 := Lib.hid (below_call HB_3.out (q8))
      have HGa_4 := Lib.hid (HGa_3.out.call (q8))
      have HMa_4 := Lib.hid (HMa_3.out.below (q8))
      have HMb_4 := Lib.hid (HMb_3.out.below (q8))
      have HGb_4 := Lib.hid (HGb_3.out.call (q8))
      clear HB_3 HGa_3 HMa_3 HMb_3 HGb_3
      clear q8 HMb_4 HGb_4
      by_cases hE0 : E = 0
      case neg =>
        have hne : (E != 0) = true := bne_iff_ne.2 hE0
        have hne2 : (E == 0) = false := beq_eq_false_iff_ne.2 hE0
        go_wp2_with fail
        refine (dalive_any _).mono ?_; rintro e w9 ⟨rfl, q9⟩
        have HB9 := Lib.hid (below_call HB_4.out q9)
        clear q9
        go_wp2_with fail
        go_ret
        exact ⟨rfl, HB9.out⟩
      subst hE0
      obtain ⟨r, hr⟩ : ∃ r, r = A % k := ⟨_, rfl⟩
      have hrn : r < k := by rw [hr]; exact Nat.mod_lt _ hl0
      have hv1 : IntKind.i64.wrap (A : Int) = (A : Int) := by rw [IntKind.wrap_i64]; omega
      have hv3 : (A : Int).tmod (k : Int) = (r : Int) := by rw [hr]; norm_cast
      have hv4 : IntKind.i64.wrap (r : Int) = (r : Int) := by rw [IntKind.wrap_i64]; omega
      have hri : (r : Int) ≤ (k : Int) := by omega
      have hri2 : (r : Int) ≤ (c : Int) := by omega
      have HP1 : Hid (ofR (l.take r) = (gat (l.take r), 0)) := Lib.hid (of_part (q := l.drop r) HF.out HUE.out (fun n => by rw [List.take_append_drop]) (by rw [List.take_append_drop, ← HN.out]; omega))
      have HP2 : Hid (ofR (l.drop r) = (gat (l.drop r), 0)) := Lib.hid (of_part (q := l.take r) HF.out HUE.out (fun n => by rw [List.mem_append, Or.comm, ← List.mem_append, List.take_append_drop]) (by rw [List.length_append, List.length_drop, List.length_take, ← HN.out]; omega))
      have HF1 : Hid (ntsFit (l.take r)) := Lib.hid (fit_sub HF.out (by rw [List.length_take, ← HN.out]; omega) (fun n hn => List.mem_of_mem_take hn))
      have HF2 : Hid (ntsFit (l.drop r)) := Lib.hid (fit_sub HF.out (by rw [List.length_drop, ← HN.out]; omega) (fun n hn => List.mem_of_mem_drop hn))
      have HUn : Hid (unionR [gat (l.drop r), gat (l.take r), U] = (U, 0)) := Lib.hid (of_union HF.out HF1.out HF2.out HUE.out HP1.out HP2.out (fun n hn => List.mem_of_mem_take hn) (fun n hn => List.mem_of_mem_drop hn))
      have HNo : Hid (ofR (notesR U) = (U, 0)) := Lib.hid (of_notes HF.out HUE.out)
      have HT0 : Hid (∀ W, Below w.heap.size w W → NotesAt W (.slice (some ⟨b, o, none⟩) r c) (l.take r)) := Lib.hid (fun W hq => (notes_take hbl HN.out HCl.out (Nat.le_of_lt hrn)).below hq)
      have HD0 : Hid (∀ W, Below w.heap.size w W → NotesAt W (.slice (some ⟨b, o + r * 3, none⟩) (k - r) (c - r)) (l.drop r)) := Lib.hid (fun W hq => (notes_drop hbl HN.out HCl.out (Nat.le_of_lt hrn)).below hq)
      clear hr
      go_wp2_with fail
      refine (of_any _ (l.take r) _ (HT0.out _ HB_4.out) HF1.out (by rw [List.length_take, ← HN.out]; omega)).mono ?_; rintro e w9 ⟨vc, he, hO, q9⟩
      rw [HP1.out] at he hO
      simp only at he hO
      subst he
      have HB_5 := Lib.hid (below_call HB_4.out (q9))
      have HGa_5 := Lib.hid (HGa_4.out.call (q9))
      have HMa_5 := Lib.hid (HMa_4.out.below (q9))
      clear HB_4 HGa_4 HMa_4
      have HMc_5 := Lib.hid hO.at
      clear q9
      obtain ⟨P3, ax3, nx3, cx3, ap3, np3, cp3, C3, hv3⟩ := hO.open
      subst hv3
      clear hO
      go_upto_region 18 with (fail)
      refine wp_named ?_; intro w10 hw10
      obtain ⟨g3, hg3⟩ : ∃ g, g = w9.heap.size := ⟨_, rfl⟩
      have HQb : Hid (Blk w10 g3 26 [.int .u32 P3, .slice ax3 nx3 cx3, .slice ap3 np3 cp3, .bool C3]) := Lib.hid (by rw [hw10, hg3]; exact Blk.new w9 26 _)
      have HQq : Hid (Below w9.heap.size w9 w10) := Lib.hid (by rw [hw10]; exact below_new1 w9 _)
      rw [← hg3]
      clear hw10 hg3
      have HB_6 := Lib.hid (below_call HB_5.out (HQq.out))
      have HGa_6 := Lib.hid (HGa_5.out.call (HQq.out))
      have HMa_6 := Lib.hid (HMa_5.out.below (HQq.out))
      have HMc_6 := Lib.hid (HMc_5.out.below (HQq.out))
      clear HB_5 HGa_5 HMa_5 HMc_5
      have HGc_6 := HQb
      clear HQq HQb
      go_wp2_with fail
      refine (of_any _ (l.drop r) _ (HD0.out _ HB_6.out) HF2.out (by rw [List.length_drop, ← HN.out]; omega)).mono ?_; rintro e w11 ⟨vd, he, hO, q11⟩
      rw [HP2.out] at he hO
      simp only at he hO
      subst he
      have HB_7 := Lib.hid (below_call HB_6.out (q11))
      have HGa_7 := Lib.hid (HGa_6.out.call (q11))
      have HMa_7 := Lib.hid (HMa_6.out.below (q11))
      have HMc_7 := Lib.hid (HMc_6.out.below (q11))
      have HGc_7 := Lib.hid (HGc_6.out.call (q11))
      clear HB_6 HGa_6 HMa_6 HMc_6 HGc_6
      have HMd_7 := Lib.hid hO.at
      clear q11
      obtain ⟨P4, ax4, nx4, cx4, ap4, np4, cp4, C4, hv4⟩ := hO.open
      subst hv4
      clear hO
      go_upto_region 19 with (fail)
      refine wp_named ?_; intro w12 hw12
      obtain ⟨g4, hg4⟩ : ∃ g, g = w11.heap.size := ⟨_, rfl⟩
      have HQb : Hid (Blk w12 g4 26 [.int .u32 P4, .slice ax4 nx4 cx4, .slice ap4 np4 cp4, .bool C4]) := Lib.hid (by rw [hw12, hg4]; exact Blk.new w11 26 _)
      have HQq : Hid (Below w11.heap.size w11 w12) := Lib.hid (by rw [hw12]; exact below_new1 w11 _)
      rw [← hg4]
      clear hw12 hg4
      have HB_8 := Lib.hid (below_call HB_7.out (HQq.out))
      have HGa_8 := Lib.hid (HGa_7.out.call (HQq.out))
      have HMa_8 := Lib.hid (HMa_7.out.below (HQq.out))
      have HMc_8 := Lib.hid (HMc_7.out.below (HQq.out))
      have HGc_8 := Lib.hid (HGc_7.out.call (HQq.out))
      have HMd_8 := Lib.hid (HMd_7.out.below (HQq.out))
      clear HB_7 HGa_7 HMa_7 HMc_7 HGc_7 HMd_7
      have HGd_8 := HQb
      clear HQq HQb
      obtain ⟨s0, s1, s2, s3⟩ := HGa_8.out.four
      obtain ⟨t0, t1, t2, t3⟩ := HGc_8.out.four
      obtain ⟨u0, u1, u2, u3⟩ := HGd_8.out.four
      have HLt : Hid (MfsAt (w12.alloc (.cells #[.int .u32 P4, .slice ax4 nx4 cx4, .slice ap4 np4 cp4, .bool C4, .int .u32 P3, .slice ax3 nx3 cx3, .slice ap3 np3 cp3, .bool C3, .int .u32 P, .slice ax nx cx, .slice ap np cp, .bool C] 26)) (.slice (some ⟨w12.heap.size, 0, none⟩) 3 3) [gat (l.drop r), gat (l.take r), U]) := Lib.hid (lit_agg3 HMd_8.out HMc_8.out HMa_8.out)
      have HFs : Hid (mfsFit [gat (l.drop r), gat (l.take r), U]) := Lib.hid ⟨by simp, fun j hj => by
        have h1 := of_fits HF1.out
        have h2 := of_fits HF2.out
        rw [HP1.out] at h1
        rw [HP2.out] at h2
        have : j = 0 ∨ j = 1 ∨ j = 2 := by simp at hj; omega
        rcases this with rfl | rfl | rfl
        · exact h2
        · exact h1
        · exact HFU.out⟩
      have HQl : Hid (Below w12.heap.size w12 (w12.alloc (.cells #[.int .u32 P4, .slice ax4 nx4 cx4, .slice ap4 np4 cp4, .bool C4, .int .u32 P3, .slice ax3 nx3 cx3, .slice ap3 np3 cp3, .bool C3, .int .u32 P, .slice ax nx cx, .slice ap np cp, .bool C] 26))) := Lib.hid (below_new1 w12 _)
      go_wp2_with fail
      refine (union_any _ [gat (l.drop r), gat (l.take r), U] _ HLt.out HFs.out (by simp)).mono ?_; rintro e w13 ⟨vu, he, hO, q13⟩
      rw [HUn.out] at he hO
      simp only at he hO
      subst he
      have HQ13 : Hid (Below w12.heap.size w12 w13) := Lib.hid (HQl.out.trans (q13.mono HQl.out.size))
      clear s0 s1 s2 s3 t0 t1 t2 t3 u0 u1 u2 u3
      clear HMc_8
      clear HGc_8
      clear HMd_8
      clear HGd_8
      have HB_9 := Lib.hid (below_call HB_8.out (HQ13.out))
      have HGa_9 := Lib.hid (HGa_8.out.call (HQ13.out))
      have HMa_9 := Lib.hid (HMa_8.out.below (HQ13.out))
      clear HB_8 HGa_8 HMa_8
      have HMu_9 := Lib.hid hO.at
      clear q13 HQ13 HQl HLt HFs
      obtain ⟨P5, ax5, nx5, cx5, ap5, np5, cp5, C5, hv5⟩ := hO.open
      subst hv5
      clear hO
      go_upto_region 20 with (fail)
      refine wp_named ?_; intro w14 hw14
      obtain ⟨g5, hg5⟩ : ∃ g, g = w13.heap.size := ⟨_, rfl⟩
      have HQb : Hid (Blk w14 g5 26 [.int .u32 P5, .slice ax5 nx5 cx5, .slice ap5 np5 cp5, .bool C5]) := Lib.hid (by rw [hw14, hg5]; exact Blk.new w13 26 _)
      have HQq : Hid (Below w13.heap.size w13 w14) := Lib.hid (by rw [hw14]; exact below_new1 w13 _)
      rw [← hg5]
      clear hw14 hg5
      have HB_10 := Lib.hid (below_call HB_9.out (HQq.out))
      have HGa_10 := Lib.hid (HGa_9.out.call (HQq.out))
      have HMa_10 := Lib.hid (HMa_9.out.below (HQq.out))
      have HMu_10 := Lib.hid (HMu_9.out.below (HQq.out))
      clear HB_9 HGa_9 HMa_9 HMu_9
      have HGu_10 := HQb
      clear HQq HQb
      obtain ⟨s0, s1, s2, s3⟩ := HGa_10.out.four
      go_wp2_with fail
      refine (dnotes_any _ U _ HMa_10.out HFU.out).mono ?_; rintro e w15 ⟨vn, rfl, hOn, q15⟩
      obtain ⟨an, cn, rfl⟩ := row_sl hOn
      have HB_11 := Lib.hid (below_call HB_10.out (q15))
      have HGa_11 := Lib.hid (HGa_10.out.call (q15))
      have HMa_11 := Lib.hid (HMa_10.out.below (q15))
      have HMu_11 := Lib.hid (HMu_10.out.below (q15))
      have HGu_11 := Lib.hid (HGu_10.out.call (q15))
      clear HB_10 HGa_10 HMa_10 HMu_10 HGu_10
      have HNn := Lib.hid hOn.at
      have HLn : Hid ((notesR U).length ≤ 1048574) := Lib.hid (by
        have h1 := notes_len U
        have h4 : (notesR U).length ≤ (notesOf U).length := by unfold notesR; split <;> simp
        have h5 := of_fine HF.out
        rw [HUE.out] at h5
        have h6 := ext16 h5.1
        have h7 := h5.2
        simp only at h6 h7
        omega)
      have HFn : Hid (ntsFit (notesR U)) := Lib.hid (good_fits (by
        have h5 := of_fine HF.out
        rw [HUE.out] at h5
        unfold notesR
        split
        · exact good_notes h5.1
        · intro n hn; cases hn) HLn.out)
      clear q15 hOn s0 s1 s2 s3
      go_wp2_with fail
      refine (of_any _ (notesR U) _ HNn.out HFn.out HLn.out).mono ?_; rintro e w16 ⟨vz, he, hO, q16⟩
      rw [HNo.out] at he hO
      simp only at he hO
      subst he
      have HB_12 := Lib.hid (below_call HB_11.out (q16))
      have HGa_12 := Lib.hid (HGa_11.out.call (q16))
      have HMa_12 := Lib.hid (HMa_11.out.below (q16))
      have HMu_12 := Lib.hid (HMu_11.out.below (q16))
      have HGu_12 := Lib.hid (HGu_11.out.call (q16))
      clear HB_11 HGa_11 HMa_11 HMu_11 HGu_11
      have HMz_12 := Lib.hid hO.at
      clear q16 HNn
      obtain ⟨P6, ax6, nx6, cx6, ap6, np6, cp6, C6, hv6⟩ := hO.open
      subst hv6
      clear hO
      go_upto_region 21 with (fail)
      refine wp_named ?_; intro w17 hw17
      obtain ⟨g6, hg6⟩ : ∃ g, g = w16.heap.size := ⟨_, rfl⟩
      have HQb : Hid (Blk w17 g6 26 [.int .u32 P6, .slice ax6 nx6 cx6, .slice ap6 np6 cp6, .bool C6]) := Lib.hid (by rw [hw17, hg6]; exact Blk.new w16 26 _)
      have HQq : Hid (Below w16.heap.size w16 w17) := Lib.hid (by rw [hw17]; exact below_new1 w16 _)
      rw [← hg6]
      clear hw17 hg6
      have HB_13 := Lib.hid (below_call HB_12.out (HQq.out))
      have HGa_13 := Lib.hid (HGa_12.out.call (HQq.out))
      have HMa_13 := Lib.hid (HMa_12.out.below (HQq.out))
      have HMu_13 := Lib.hid (HMu_12.out.below (HQq.out))
      have HGu_13 := Lib.hid (HGu_12.out.call (HQq.out))
      have HMz_13 := Lib.hid (HMz_12.out.below (HQq.out))
      clear HB_12 HGa_12 HMa_12 HMu_12 HGu_12 HMz_12
      have HGz_13 := HQb
      clear HQq HQb
      obtain ⟨s0, s1, s2, s3⟩ := HGa_13.out.four
      obtain ⟨t0, t1, t2, t3⟩ := HGu_13.out.four
      go_wp2_with fail
      refine (same_any _ _ U U _ HMu_13.out HMa_13.out HFU.out HFU.out).mono ?_; rintro e w18 ⟨h18, q18⟩
      rw [decide_eq_true rfl] at h18
      subst h18
      clear s0 s1 s2 s3 t0 t1 t2 t3
      have HB_14 := Lib.hid (below_call HB_13.out (q18))
      have HGa_14 := Lib.hid (HGa_13.out.call (q18))
      have HMa_14 := Lib.hid (HMa_13.out.below (q18))
      have HMu_14 := Lib.hid (HMu_13.out.below (q18))
      have HGu_14 := Lib.hid (HGu_13.out.call (q18))
      have HMz_14 := Lib.hid (HMz_13.out.below (q18))
      have HGz_14 := Lib.hid (HGz_13.out.call (q18))
      clear HB_13 HGa_13 HMa_13 HMu_13 HGu_13 HMz_13 HGz_13
      clear q18
      obtain ⟨s0, s1, s2, s3⟩ := HGa_14.out.four
      obtain ⟨t0, t1, t2, t3⟩ := HGz_14.out.four
      go_wp2_with fail
      refine (same_any _ _ U U _ HMz_14.out HMa_14.out HFU.out HFU.out).mono ?_; rintro e w19 ⟨h19, q19⟩
      rw [decide_eq_true rfl] at h19
      subst h19
      clear s0 s1 s2 s3 t0 t1 t2 t3
      have HB_15 := Lib.hid (below_call HB_14.out (q19))
      have HGa_15 := Lib.hid (HGa_14.out.call (q19))
      have HMa_15 := Lib.hid (HMa_14.out.below (q19))
      have HMu_15 := Lib.hid (HMu_14.out.below (q19))
      have HGu_15 := Lib.hid (HGu_14.out.call (q19))
      have HMz_15 := Lib.hid (HMz_14.out.below (q19))
      have HGz_15 := Lib.hid (HGz_14.out.call (q19))
      clear HB_14 HGa_14 HMa_14 HMu_14 HGu_14 HMz_14 HGz_14
      clear q19
      go_wp2_with fail
      refine (dalive_any _).mono ?_; rintro e w20 ⟨rfl, q20⟩
      have HBz := Lib.hid (below_call HB_15.out q20)
      clear q20
      go_wp2_with fail
      go_ret
      exact ⟨rfl, HBz.out⟩
end Go.Proofs.Ytmfebmiigkmkbaa
