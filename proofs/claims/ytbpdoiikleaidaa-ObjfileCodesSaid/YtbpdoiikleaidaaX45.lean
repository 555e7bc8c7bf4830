/- The document's Put: an object's bytes. (written by mk_fb.py) -/
import Derived.Test.YtbpdoiikleaidaaX15
import Derived.Test.YtbpdoiikleaidaaQV
import Derived.Test.YtbpdoiikleaidaaX17
import Derived.Deep.DeepCutAuto
import Derived.IntWalk
set_option linter.unusedVariables false
set_option linter.unusedSimpArgs false
namespace Go.Proofs.Ytbpdoiikleaidaa
open Go Go.RowKit Oj Pk Of

/-- What is written ahead of the k-th symbol; of a symbol's places, of its notes. -/
def pre (on : List UInt8) (l : List Sy) (k : Nat) : List UInt8 := magic ++ (txt on ++ (Wd.le l.length 2 ++ encSs (l.take k)))
def headS (s : Sy) : List UInt8 := txt s.name ++ (Wd.le s.bind.toNat 1 ++ (Wd.le s.kind.toNat 1 ++ (Wd.le s.size.toNat 4 ++ (txt s.bytes ++ Wd.le s.rels.length 2))))
def preR (on : List UInt8) (l : List Sy) (k : Nat) (s : Sy) (q : Nat) : List UInt8 := pre on l k ++ (headS s ++ encRs (s.rels.take q))
def preN (on : List UInt8) (l : List Sy) (k : Nat) (s : Sy) (q : Nat) : List UInt8 := pre on l k ++ (headS s ++ (encRs s.rels ++ (Wd.le s.notes.length 1 ++ encNs (s.notes.take q))))
theorem encSs_snoc (l : List Sy) (k : Nat) (h : k < l.length) : encSs (l.take (k + 1)) = encSs (l.take k) ++ encS (l.getD k Sy.nought) := by
  unfold encSs
  rw [List.take_succ_eq_append_getElem h, List.map_append, List.flatten_append]
  simp [List.getD, h]
theorem encRs_snoc (l : List Rl) (k : Nat) (h : k < l.length) : encRs (l.take (k + 1)) = encRs (l.take k) ++ encR (l.getD k Rl.nought) := by
  unfold encRs
  rw [List.take_succ_eq_append_getElem h, List.map_append, List.flatten_append]
  simp [List.getD, h]
theorem encNs_snoc (l : List Nt) (k : Nat) (h : k < l.length) : encNs (l.take (k + 1)) = encNs (l.take k) ++ encN (l.getD k Nt.nought) := by
  unfold encNs
  rw [List.take_succ_eq_append_getElem h, List.map_append, List.flatten_append]
  simp [List.getD, h]
theorem pre_next (on : List UInt8) (l : List Sy) (k : Nat) (h : k < l.length) : pre on l (k + 1) = preN on l k (l.getD k Sy.nought) (l.getD k Sy.nought).notes.length := by
  unfold pre preN headS pre
  rw [encSs_snoc l k h, List.take_length]
  simp only [encS, List.append_assoc]
theorem pre_le (on : List UInt8) (l : List Sy) (k : Nat) : (pre on l k).length ≤ (encO ⟨on, l⟩).length := by
  have : encSs l = encSs (l.take k) ++ encSs (l.drop k) := by
    unfold encSs
    rw [← List.flatten_append, ← List.map_append, List.take_append_drop]
  unfold pre encO
  simp only [List.length_append]
  rw [this, List.length_append]
  omega
theorem preN_le (on : List UInt8) (l : List Sy) (k : Nat) (h : k < l.length) (q : Nat) : (preN on l k (l.getD k Sy.nought) q).length ≤ (encO ⟨on, l⟩).length := by
  have h1 := pre_le on l (k + 1)
  rw [pre_next on l k h] at h1
  have : encNs (l.getD k Sy.nought).notes = encNs ((l.getD k Sy.nought).notes.take q) ++ encNs ((l.getD k Sy.nought).notes.drop q) := by
    unfold encNs
    rw [← List.flatten_append, ← List.map_append, List.take_append_drop]
  unfold preN at h1 ⊢
  rw [List.take_length, this] at h1
  simp only [List.length_append] at h1 ⊢
  omega
theorem preR_le (on : List UInt8) (l : List Sy) (k : Nat) (h : k < l.length) (q : Nat) : (preR on l k (l.getD k Sy.nought) q).length ≤ (encO ⟨on, l⟩).length := by
  have h1 := preN_le on l k h 0
  have : encRs (l.getD k Sy.nought).rels = encRs ((l.getD k Sy.nought).rels.take q) ++ encRs ((l.getD k Sy.nought).rels.drop q) := by
    unfold encRs
    rw [← List.flatten_append, ← List.map_append, List.take_append_drop]
  unfold preN at h1
  unfold preR
  rw [this] at h1
  simp only [List.length_append] at h1 ⊢
  omega
theorem mem_getD {α : Type} {l : List α} {d : α} {k : Nat} (h : k < l.length) : l.getD k d ∈ l := by
  rw [List.getD_eq_getElem?_getD, List.getElem?_eq_getElem h]
  exact List.getElem_mem h

set_option maxHeartbeats 16000000 in
set_option maxRecDepth 100000 in
theorem dput_any (v : Value) (x : Ob) (hf : obFits x) (hi : inO x) (hlen : (encO x).length ≤ 4194304) (w : World) (hA : ObAt w v x) : Calls Try.prog 12 #[v] w fun e w' => e = .returned (.string (tx (encO x))) ∧ Below w.heap.size w w' := by
  obtain ⟨on, l⟩ := x
  obtain ⟨hf1, hf2, hf3⟩ := hf
  obtain ⟨hi1, hi2, hi3⟩ := hi
  obtain ⟨vs, rfl, hS⟩ := hA
  simp only at hf1 hf2 hf3 hi1 hi2 hi3 hS ⊢
  obtain ⟨a, c, rfl, hsy⟩ := hS.get
  obtain ⟨n, hn⟩ : ∃ n, n = l.length := ⟨_, rfl⟩
  rw [← hn] at hsy hi2 ⊢
  have HFs := Lib.hid (show ∀ j, j < n → syFits (l.getD j Sy.nought) from by rw [hn]; exact hf3)
  have HIs := Lib.hid (show ∀ j, j < n → inS (l.getD j Sy.nought) from fun j hj => hi3 _ (mem_getD (by rw [← hn]; exact hj)))
  obtain ⟨M, hM⟩ : ∃ M, M = tx on := ⟨_, rfl⟩
  rw [← hM]
  have HT1 := Lib.hid (fun W => dtext_any M (by rw [hM, tx_size]; exact hi1) W)
  have HT2 := Lib.hid (fun W => dnum2 (n : Int) (by omega) (by omega) W)
  obtain ⟨T1, hT1⟩ : ∃ T, T = tx (txt (by' M)) := ⟨_, rfl⟩
  obtain ⟨T2, hT2⟩ : ∃ T, T = tx (Wd.le (n : Int).toNat 2) := ⟨_, rfl⟩
  rw [← hT1] at HT1
  rw [← hT2] at HT2
  have sT1 : T1.size ≤ 65537 := by rw [hT1, hM, by_tx, tx_size, txt, List.length_append, Wd.le_length]; omega
  have sT2 : T2.size ≤ 2 := by rw [hT2, tx_size, Wd.le_length]; omega
  have HB0 := Lib.hid (below_new1 w (.cells #[.string M, .slice a n c] 24))
  have HX0 := Lib.hid (Blk.new w 24 [.string M, .slice a n c])
  have HE1 : Hid (⟨#[65, 79, 66, 49]⟩ ++ T1 ++ T2 = tx (pre on l 0)) := Lib.hid (by
    unfold pre
    rw [hT1, hT2, hM, by_tx, show (⟨#[65, 79, 66, 49]⟩ : ByteArray) = tx magic from rfl, tx_append, tx_append, Int.toNat_natCast, List.append_assoc, ← hn]
    simp [encSs])
  have hn16 : (n : Int) < 65536 := by omega
  have HSY := Lib.hid hsy
  have HN := Lib.hid hn
  have HLen := Lib.hid hlen
  clear hT1 hT2 hM hS hsy hn hlen hf1 hf2 hf3 hi1 hi2 hi3
  go_enter Try.func12, Try.ntmps12
  go_upto_region 1 with (fail)
  obtain ⟨w0, hw0⟩ : ∃ w0, w0 = w.alloc (.cells #[.string M, .slice a n c] 24) := ⟨_, rfl⟩
  rw [← hw0] at HB0 HX0 ⊢
  clear hw0
  have HCo : Hid (∀ W, Below w0.heap.size w0 W → W.cell? ⟨w.heap.size, 0, none⟩ = some (.string M) ∧ W.cell? ⟨w.heap.size, 1, none⟩ = some (.slice a n c)) := Lib.hid (fun W hW => ⟨(HX0.out.call hW).cell 0, (HX0.out.call hW).cell 1⟩)
  have hwr : IntKind.u32.wrap (n : Int) = n := IntWalk.u32_in _ (by omega)
  refine qy_region (C := fun W => Below w0.heap.size w0 W) (by kernel_rfl) (by kernel_rfl) (Below.refl _ _).drew ?_
  refine qy_by rfl (.pointer (some ⟨w.heap.size, 0, none⟩)) (fun W _ => by simp [go_sem]) ?_
  simp only [Act.put, List.setIfInBounds_toArray, List.set_cons_zero, List.set_cons_succ]
  refine qy_by rfl (.string M) (fun W hW => by simp [go_sem, (HCo.out W hW).1]) ?_
  simp only [Act.put, List.setIfInBounds_toArray, List.set_cons_zero, List.set_cons_succ]
  refine qy_call rfl 22 #[.string M] (.string T1) (fun W _ => by simp [go_sem]) (fun W hW => (HT1.out W).mono fun e w' ⟨h1, h2⟩ => ⟨h1, below_call hW h2⟩) ?_
  simp only [Act.put, List.setIfInBounds_toArray, List.set_cons_zero, List.set_cons_succ]
  refine qy_by rfl (.string (⟨#[65, 79, 66, 49]⟩ ++ T1)) (fun W _ => by simp [go_sem]; omega) ?_
  simp only [Act.put, List.setIfInBounds_toArray, List.set_cons_zero, List.set_cons_succ]
  refine qy_by rfl (.pointer (some ⟨w.heap.size, 1, none⟩)) (fun W _ => by simp [go_sem]) ?_
  simp only [Act.put, List.setIfInBounds_toArray, List.set_cons_zero, List.set_cons_succ]
  refine qy_by rfl (.slice a n c) (fun W hW => by simp [go_sem, (HCo.out W hW).2]) ?_
  simp only [Act.put, List.setIfInBounds_toArray, List.set_cons_zero, List.set_cons_succ]
  refine qy_by rfl (.int .i64 (n : Int)) (fun W _ => by simp [go_sem]) ?_
  simp only [Act.put, List.setIfInBounds_toArray, List.set_cons_zero, List.set_cons_succ]
  refine qy_by rfl (.int .u32 (n : Int)) (fun W _ => by simp [go_sem, hwr]) ?_
  simp only [Act.put, List.setIfInBounds_toArray, List.set_cons_zero, List.set_cons_succ]
  refine qy_call rfl 23 #[.int .u32 (n : Int), .int .i64 2] (.string T2) (fun W _ => by simp [go_sem]) (fun W hW => (HT2.out W).mono fun e w' ⟨h1, h2⟩ => ⟨h1, below_call hW h2⟩) ?_
  simp only [Act.put, List.setIfInBounds_toArray, List.set_cons_zero, List.set_cons_succ]
  refine qy_by rfl (.string (⟨#[65, 79, 66, 49]⟩ ++ T1 ++ T2)) (fun W _ => by simp [go_sem]; omega) ?_
  simp only [Act.put, List.setIfInBounds_toArray, List.set_cons_zero, List.set_cons_succ]
  refine qy_by rfl (.string (⟨#[65, 79, 66, 49]⟩ ++ T1 ++ T2)) (fun W _ => by simp [go_sem]) ?_
  simp only [Act.put, List.setIfInBounds_toArray, List.set_cons_zero, List.set_cons_succ]
  refine wpQuiet_nil ?_
  intro w1 q1
  have HB1 := Lib.hid (below_call HB0.out q1)
  have HX1 := Lib.hid (HX0.out.call q1)
  clear q1 HCo hwr HB0 HX0 HT1 HT2
  rw [HE1.out]
  clear sT1 sT2 HE1
  obtain ⟨O0, hO0⟩ : ∃ O, O = tx (pre on l 0) := ⟨_, rfl⟩
  rw [← hO0]
  have HO0 := Lib.hid hO0
  clear hO0
  go_wp2_with fail
  go_loopw [3, 4] (fun t3 i wr => ∃ (k : Nat) (O : ByteArray), (k : Int) ≤ n ∧ i = .int .i64 k ∧ t3 = .string O ∧ Hid (O = tx (pre on l k)) ∧ Hid (Below w.heap.size w wr) ∧ Hid (Blk wr w.heap.size 24 [.string M, .slice a n c])) (fun _ i _ => n - (intOf i).toNat)
  case atStart => exact ⟨0, O0, by omega, rfl, rfl, HO0, HB1, HX1⟩
  case round =>
    clear HO0 HB1 HX1
    obtain ⟨k, O, hk, rfl, rfl, HO, HB, HX⟩ := hrel
    have b1 : wr.cell? ⟨w.heap.size, 1, none⟩ = some (.slice a n c) := HX.out.cell 1
    by_cases hlt : k < n
    · have hd : decide (k < n) = true := decide_eq_true hlt
      have hkl : k < l.length := by rw [← HN.out]; exact hlt
      obtain ⟨b, o, rfl, hbl, hcl⟩ := HSY.out (by omega)
      obtain ⟨vr, vn, hL, hr, hno⟩ := hcl k hlt
      obtain ⟨i1, ⟨i2, i3⟩, ⟨i4, i5⟩, ⟨i6, i7⟩, i8, i9, i10, i11, i12⟩ := HIs.out k hlt
      obtain ⟨f1, _, _, _, f5, f6, f7, f8, f9⟩ := HFs.out k hlt
      have hpn := pre_next on l k hkl
      have hle := pre_le on l k
      have hleR := preR_le on l k hkl
      have hleN := preN_le on l k hkl
      obtain ⟨s, hs⟩ : ∃ s, s = l.getD k Sy.nought := ⟨_, rfl⟩
      rw [← hs] at hL hr hno i1 i2 i3 i4 i5 i6 i7 i8 i9 i10 i11 i12 f1 f5 f6 f7 f8 f9 hpn hleR hleN
      have hOs : O.size ≤ 4194304 := by rw [HO.out, tx_size]; exact Nat.le_trans hle HLen.out
      obtain ⟨ra, rc, rfl, hrl⟩ := hr
      obtain ⟨na, nc, rfl, hnl⟩ := hno
      obtain ⟨rn, hrn⟩ : ∃ y, y = s.rels.length := ⟨_, rfl⟩
      obtain ⟨nn, hnn⟩ : ∃ y, y = s.notes.length := ⟨_, rfl⟩
      obtain ⟨u0, g0⟩ : ∃ u, u = tx s.name := ⟨_, rfl⟩
      obtain ⟨u1, g1⟩ : ∃ u, u = s.bind := ⟨_, rfl⟩
      obtain ⟨u2, g2⟩ : ∃ u, u = s.kind := ⟨_, rfl⟩
      obtain ⟨u3, g3⟩ : ∃ u, u = s.size := ⟨_, rfl⟩
      obtain ⟨u4, g4⟩ : ∃ u, u = tx s.bytes := ⟨_, rfl⟩
      rw [← hrn] at hL hrl i9 f6
      rw [← hnn] at hL hnl i11 f7
      rw [← g1] at i2 i3
      rw [← g2] at i4 i5
      rw [← g3] at i6 i7
      have hrni : (rn : Int) < 65536 := by omega
      have hnni : (nn : Int) < 256 := by omega
      have HA1 := Lib.hid (fun W => dtext_any u0 (by rw [g0, tx_size]; exact i1) W)
      have HA2 := Lib.hid (fun W => dnum1 u1 i2 i3 W)
      have HA3 := Lib.hid (fun W => dnum1 u2 i4 i5 W)
      have HA4 := Lib.hid (fun W => dnum4 u3 i6 i7 W)
      have HA5 := Lib.hid (fun W => dtext_any u4 (by rw [g4, tx_size]; exact i8) W)
      have HA6 := Lib.hid (fun W => dnum2 (rn : Int) (by omega) hrni W)
      have HA7 := Lib.hid (fun W => dnum1 (nn : Int) (by omega) hnni W)
      obtain ⟨A1, hA1⟩ : ∃ T, T = tx (txt (by' u0)) := ⟨_, rfl⟩
      obtain ⟨A2, hA2⟩ : ∃ T, T = tx (Wd.le u1.toNat 1) := ⟨_, rfl⟩
      obtain ⟨A3, hA3⟩ : ∃ T, T = tx (Wd.le u2.toNat 1) := ⟨_, rfl⟩
      obtain ⟨A4, hA4⟩ : ∃ T, T = tx (Wd.le u3.toNat 4) := ⟨_, rfl⟩
      obtain ⟨A5, hA5⟩ : ∃ T, T = tx (txt (by' u4)) := ⟨_, rfl⟩
      obtain ⟨A6, hA6⟩ : ∃ T, T = tx (Wd.le (rn : Int).toNat 2) := ⟨_, rfl⟩
      obtain ⟨A7, hA7⟩ : ∃ T, T = tx (Wd.le (nn : Int).toNat 1) := ⟨_, rfl⟩
      rw [← hA1] at HA1
      rw [← hA2] at HA2
      rw [← hA3] at HA3
      rw [← hA4] at HA4
      rw [← hA5] at HA5
      rw [← hA6] at HA6
      rw [← hA7] at HA7
      have sA1 : A1.size ≤ 65537 := by rw [hA1, g0, by_tx, tx_size, txt, List.length_append, Wd.le_length]; omega
      have sA2 : A2.size ≤ 1 := by rw [hA2, tx_size, Wd.le_length]; omega
      have sA3 : A3.size ≤ 1 := by rw [hA3, tx_size, Wd.le_length]; omega
      have sA4 : A4.size ≤ 4 := by rw [hA4, tx_size, Wd.le_length]; omega
      have sA5 : A5.size ≤ 65537 := by rw [hA5, g4, by_tx, tx_size, txt, List.length_append, Wd.le_length]; omega
      have sA6 : A6.size ≤ 2 := by rw [hA6, tx_size, Wd.le_length]; omega
      have sA7 : A7.size ≤ 1 := by rw [hA7, tx_size, Wd.le_length]; omega
      have HEh : Hid (O ++ A1 ++ A2 ++ A3 ++ A4 ++ A5 ++ A6 = tx (preR on l k s 0)) := Lib.hid (by
        rw [HO.out, hA1, hA2, hA3, hA4, hA5, hA6, g0, g1, g2, g3, g4, by_tx, by_tx]
        simp only [tx_append, Int.toNat_natCast]
        unfold preR headS
        simp [encRs, hrn])
      have HEn : Hid (∀ Q, Q = tx (preR on l k s rn) → Q ++ A7 = tx (preN on l k s 0)) := Lib.hid (fun Q hQ => by
        rw [hQ, hA7, tx_append, Int.toNat_natCast]
        unfold preR preN
        rw [hrn, hnn, List.take_length]
        simp [encNs])
      have HRl := Lib.hid (And.intro hrl (And.intro (show ∀ q, q < rn → rlFits (s.rels.getD q Rl.nought) from by rw [hrn]; exact f8) (show ∀ q, q < rn → inR (s.rels.getD q Rl.nought) from fun q hq => i10 _ (mem_getD (by rw [← hrn]; exact hq)))))
      have HNl := Lib.hid (And.intro hnl (show ∀ q, q < nn → inN (s.notes.getD q Nt.nought) from fun q hq => i12 _ (mem_getD (by rw [← hnn]; exact hq))))
      have HRs := Lib.hid (show ∀ q, q < rn → encRs (s.rels.take (q + 1)) = encRs (s.rels.take q) ++ encR (s.rels.getD q Rl.nought) from fun q hq => encRs_snoc _ _ (by rw [← hrn]; exact hq))
      have HNs := Lib.hid (show ∀ q, q < nn → encNs (s.notes.take (q + 1)) = encNs (s.notes.take q) ++ encN (s.notes.getD q Nt.nought) from fun q hq => encNs_snoc _ _ (by rw [← hnn]; exact hq))
      have HleR := Lib.hid (show ∀ q, (preR on l k s q).length ≤ 4194304 from fun q => Nat.le_trans (hleR q) HLen.out)
      have HleN := Lib.hid (show ∀ q, (preN on l k s q).length ≤ 4194304 from fun q => Nat.le_trans (hleN q) HLen.out)
      have HPn := Lib.hid (show pre on l (k + 1) = preN on l k s nn from by rw [hnn]; exact hpn)
      obtain ⟨c0, c1, c2, c3, c4, c5, c6⟩ := (hL.below HB.out hbl).sy
      rw [← g0] at c0
      rw [← g1] at c1
      rw [← g2] at c2
      rw [← g3] at c3
      rw [← g4] at c4
      have hbr : b < wr.heap.size := Nat.lt_of_lt_of_le hbl HB.out.size
      clear hcl hL hs i1 i8 i9 i10 i11 i12 f1 f5 f6 f7 f8 f9 hpn hle hleR hleN hrl hnl g0 g1 g2 g3 g4 hA1 hA2 hA3 hA4 hA5 hA6 hA7 hkl hrn hnn
      have HB2 := Lib.hid (below_box HB.out (.cells #[.string u0, .int .u8 u1, .int .u8 u2, .int .u32 u3, .string u4, .slice ra rn rc, .slice na nn nc] 47))
      have HX2 := Lib.hid (HX.out.alloc (.cells #[.string u0, .int .u8 u1, .int .u8 u2, .int .u32 u3, .string u4, .slice ra rn rc, .slice na nn nc] 47))
      have HY2 := Lib.hid (Blk.new wr 47 [.string u0, .int .u8 u1, .int .u8 u2, .int .u32 u3, .string u4, .slice ra rn rc, .slice na nn nc])
      obtain ⟨gs, hgs⟩ : ∃ gs, gs = wr.heap.size := ⟨_, rfl⟩
      go_upto_region 6 with (fail)
      obtain ⟨w2, hw2⟩ : ∃ w2, w2 = wr.alloc (.cells #[.string u0, .int .u8 u1, .int .u8 u2, .int .u32 u3, .string u4, .slice ra rn rc, .slice na nn nc] 47) := ⟨_, rfl⟩
      rw [← hw2] at HB2 HX2 HY2 ⊢
      rw [← hgs] at HY2 ⊢
      clear hw2 hgs c0 c1 c2 c3 c4 c5 c6 b1 hbr HB HX
      have HCs : Hid (∀ W, Below w2.heap.size w2 W → W.cell? ⟨gs, 0, none⟩ = some (.string u0) ∧ W.cell? ⟨gs, 1, none⟩ = some (.int .u8 u1) ∧ W.cell? ⟨gs, 2, none⟩ = some (.int .u8 u2) ∧ W.cell? ⟨gs, 3, none⟩ = some (.int .u32 u3) ∧ W.cell? ⟨gs, 4, none⟩ = some (.string u4) ∧ W.cell? ⟨gs, 5, none⟩ = some (.slice ra rn rc)) := Lib.hid (fun W hW => ⟨(HY2.out.call hW).cell 0, (HY2.out.call hW).cell 1, (HY2.out.call hW).cell 2, (HY2.out.call hW).cell 3, (HY2.out.call hW).cell 4, (HY2.out.call hW).cell 5⟩)
      have hw1 : IntKind.u32.wrap u1 = u1 := IntWalk.u32_in _ (by omega)
      have hw2 : IntKind.u32.wrap u2 = u2 := IntWalk.u32_in _ (by omega)
      have hw3 : IntKind.u32.wrap (rn : Int) = rn := IntWalk.u32_in _ (by omega)
      refine qy_region (C := fun W => Below w2.heap.size w2 W) (by kernel_rfl) (by kernel_rfl) (Below.refl _ _).drew ?_
      refine qy_by rfl (.string O) (fun W _ => by simp [go_sem]) ?_
      simp only [Act.put, List.setIfInBounds_toArray, List.set_cons_zero, List.set_cons_succ]
      refine qy_by rfl (.pointer (some ⟨gs, 0, none⟩)) (fun W _ => by simp [go_sem]) ?_
      simp only [Act.put, List.setIfInBounds_toArray, List.set_cons_zero, List.set_cons_succ]
      refine qy_by rfl (.string u0) (fun W hW => by simp [go_sem, (HCs.out W hW).1]) ?_
      simp only [Act.put, List.setIfInBounds_toArray, List.set_cons_zero, List.set_cons_succ]
      refine qy_call rfl 22 #[.string u0] (.string A1) (fun W _ => by simp [go_sem]) (fun W hW => (HA1.out W).mono fun e w' ⟨h1, h2⟩ => ⟨h1, below_call hW h2⟩) ?_
      simp only [Act.put, List.setIfInBounds_toArray, List.set_cons_zero, List.set_cons_succ]
      refine qy_by rfl (.string (O ++ A1)) (fun W _ => by simp [go_sem]; omega) ?_
      simp only [Act.put, List.setIfInBounds_toArray, List.set_cons_zero, List.set_cons_succ]
      refine qy_by rfl (.pointer (some ⟨gs, 1, none⟩)) (fun W _ => by simp [go_sem]) ?_
      simp only [Act.put, List.setIfInBounds_toArray, List.set_cons_zero, List.set_cons_succ]
      refine qy_by rfl (.int .u8 u1) (fun W hW => by simp [go_sem, (HCs.out W hW).2.1]) ?_
      simp only [Act.put, List.setIfInBounds_toArray, List.set_cons_zero, List.set_cons_succ]
      refine qy_by rfl (.int .u32 u1) (fun W _ => by simp [go_sem, hw1]) ?_
      simp only [Act.put, List.setIfInBounds_toArray, List.set_cons_zero, List.set_cons_succ]
      refine qy_call rfl 23 #[.int .u32 u1, .int .i64 1] (.string A2) (fun W _ => by simp [go_sem]) (fun W hW => (HA2.out W).mono fun e w' ⟨h1, h2⟩ => ⟨h1, below_call hW h2⟩) ?_
      simp only [Act.put, List.setIfInBounds_toArray, List.set_cons_zero, List.set_cons_succ]
      refine qy_by rfl (.string (O ++ A1 ++ A2)) (fun W _ => by simp [go_sem]; omega) ?_
      simp only [Act.put, List.setIfInBounds_toArray, List.set_cons_zero, List.set_cons_succ]
      refine qy_by rfl (.pointer (some ⟨gs, 2, none⟩)) (fun W _ => by simp [go_sem]) ?_
      simp only [Act.put, List.setIfInBounds_toArray, List.set_cons_zero, List.set_cons_succ]
      refine qy_by rfl (.int .u8 u2) (fun W hW => by simp [go_sem, (HCs.out W hW).2.2.1]) ?_
      simp only [Act.put, List.setIfInBounds_toArray, List.set_cons_zero, List.set_cons_succ]
      refine qy_by rfl (.int .u32 u2) (fun W _ => by simp [go_sem, hw2]) ?_
      simp only [Act.put, List.setIfInBounds_toArray, List.set_cons_zero, List.set_cons_succ]
      refine qy_call rfl 23 #[.int .u32 u2, .int .i64 1] (.string A3) (fun W _ => by simp [go_sem]) (fun W hW => (HA3.out W).mono fun e w' ⟨h1, h2⟩ => ⟨h1, below_call hW h2⟩) ?_
      simp only [Act.put, List.setIfInBounds_toArray, List.set_cons_zero, List.set_cons_succ]
      refine qy_by rfl (.string (O ++ A1 ++ A2 ++ A3)) (fun W _ => by simp [go_sem]; omega) ?_
      simp only [Act.put, List.setIfInBounds_toArray, List.set_cons_zero, List.set_cons_succ]
      refine qy_by rfl (.pointer (some ⟨gs, 3, none⟩)) (fun W _ => by simp [go_sem]) ?_
      simp only [Act.put, List.setIfInBounds_toArray, List.set_cons_zero, List.set_cons_succ]
      refine qy_by rfl (.int .u32 u3) (fun W hW => by simp [go_sem, (HCs.out W hW).2.2.2.1]) ?_
      simp only [Act.put, List.setIfInBounds_toArray, List.set_cons_zero, List.set_cons_succ]
      refine qy_call rfl 23 #[.int .u32 u3, .int .i64 4] (.string A4) (fun W _ => by simp [go_sem]) (fun W hW => (HA4.out W).mono fun e w' ⟨h1, h2⟩ => ⟨h1, below_call hW h2⟩) ?_
      simp only [Act.put, List.setIfInBounds_toArray, List.set_cons_zero, List.set_cons_succ]
      refine qy_by rfl (.string (O ++ A1 ++ A2 ++ A3 ++ A4)) (fun W _ => by simp [go_sem]; omega) ?_
      simp only [Act.put, List.setIfInBounds_toArray, List.set_cons_zero, List.set_cons_succ]
      refine qy_by rfl (.pointer (some ⟨gs, 4, none⟩)) (fun W _ => by simp [go_sem]) ?_
      simp only [Act.put, List.setIfInBounds_toArray, List.set_cons_zero, List.set_cons_succ]
      refine qy_by rfl (.string u4) (fun W hW => by simp [go_sem, (HCs.out W hW).2.2.2.2.1]) ?_
      simp only [Act.put, List.setIfInBounds_toArray, List.set_cons_zero, List.set_cons_succ]
      refine qy_call rfl 22 #[.string u4] (.string A5) (fun W _ => by simp [go_sem]) (fun W hW => (HA5.out W).mono fun e w' ⟨h1, h2⟩ => ⟨h1, below_call hW h2⟩) ?_
      simp only [Act.put, List.setIfInBounds_toArray, List.set_cons_zero, List.set_cons_succ]
      refine qy_by rfl (.string (O ++ A1 ++ A2 ++ A3 ++ A4 ++ A5)) (fun W _ => by simp [go_sem]; omega) ?_
      simp only [Act.put, List.setIfInBounds_toArray, List.set_cons_zero, List.set_cons_succ]
      refine qy_by rfl (.pointer (some ⟨gs, 5, none⟩)) (fun W _ => by simp [go_sem]) ?_
      simp only [Act.put, List.setIfInBounds_toArray, List.set_cons_zero, List.set_cons_succ]
      refine qy_by rfl (.slice ra rn rc) (fun W hW => by simp [go_sem, (HCs.out W hW).2.2.2.2.2]) ?_
      simp only [Act.put, List.setIfInBounds_toArray, List.set_cons_zero, List.set_cons_succ]
      refine qy_by rfl (.int .i64 (rn : Int)) (fun W _ => by simp [go_sem]) ?_
      simp only [Act.put, List.setIfInBounds_toArray, List.set_cons_zero, List.set_cons_succ]
      refine qy_by rfl (.int .u32 (rn : Int)) (fun W _ => by simp [go_sem, hw3]) ?_
      simp only [Act.put, List.setIfInBounds_toArray, List.set_cons_zero, List.set_cons_succ]
      refine qy_call rfl 23 #[.int .u32 (rn : Int), .int .i64 2] (.string A6) (fun W _ => by simp [go_sem]) (fun W hW => (HA6.out W).mono fun e w' ⟨h1, h2⟩ => ⟨h1, below_call hW h2⟩) ?_
      simp only [Act.put, List.setIfInBounds_toArray, List.set_cons_zero, List.set_cons_succ]
      refine qy_by rfl (.string (O ++ A1 ++ A2 ++ A3 ++ A4 ++ A5 ++ A6)) (fun W _ => by simp [go_sem]; omega) ?_
      simp only [Act.put, List.setIfInBounds_toArray, List.set_cons_zero, List.set_cons_succ]
      refine qy_by rfl (.string (O ++ A1 ++ A2 ++ A3 ++ A4 ++ A5 ++ A6)) (fun W _ => by simp [go_sem]) ?_
      simp only [Act.put, List.setIfInBounds_toArray, List.set_cons_zero, List.set_cons_succ]
      refine wpQuiet_nil ?_
      intro w3 q3
      have HB3 := Lib.hid (below_call HB2.out q3)
      have HX3 := Lib.hid (HX2.out.call q3)
      have HY3 := Lib.hid (HY2.out.call q3)
      clear q3 HCs hw1 hw2 hw3 HB2 HX2 HY2 HA1 HA2 HA3 HA4 HA5 HA6 i2 i3 i4 i5 i6 i7
      rw [HEh.out]
      clear sA1 sA2 sA3 sA4 sA5 sA6 HEh HO hOs
      obtain ⟨P0, hP0⟩ : ∃ P, P = tx (preR on l k s 0) := ⟨_, rfl⟩
      rw [← hP0]
      have HP0 := Lib.hid hP0
      clear hP0
      go_wp2_with fail
      go_loopw [3, 6] (fun t3 i wr => ∃ (q : Nat) (O : ByteArray), (q : Int) ≤ rn ∧ i = .int .i64 q ∧ t3 = .string O ∧ Hid (O = tx (preR on l k s q)) ∧ Hid (Below w.heap.size w wr) ∧ Hid (Blk wr w.heap.size 24 [.string M, .slice (some ⟨b, o, none⟩) n c]) ∧ Hid (Blk wr gs 47 [.string u0, .int .u8 u1, .int .u8 u2, .int .u32 u3, .string u4, .slice ra rn rc, .slice na nn nc])) (fun _ i _ => rn - (intOf i).toNat)
      case atStart => exact ⟨0, P0, by omega, rfl, rfl, HP0, HB3, HX3, HY3⟩
      case round =>
        clear HP0 HB3 HX3 HY3
        obtain ⟨q, O, hq, rfl, rfl, HO, HB, HX, HY⟩ := hrel
        have d5 : wr.cell? ⟨gs, 5, none⟩ = some (.slice ra rn rc) := HY.out.cell 5
        have hOs : O.size ≤ 4194304 := by rw [HO.out, tx_size]; exact HleR.out q
        by_cases hqr : q < rn
        · have hdq : decide (q < rn) = true := decide_eq_true hqr
          obtain ⟨hrl, hrf, hri⟩ := HRl.out
          obtain ⟨b3, o3, rfl, hbl3, hcl3⟩ := hrl (by omega)
          have hL3 := hcl3 q hqr
          obtain ⟨⟨j1, j2⟩, ⟨j3, j4⟩, j5, ⟨j6, j7⟩⟩ := hri q hqr
          have hsn := HRs.out q hqr
          obtain ⟨y, hy⟩ : ∃ y, y = s.rels.getD q Rl.nought := ⟨_, rfl⟩
          rw [← hy] at hL3 j1 j2 j3 j4 j5 j6 j7 hsn
          obtain ⟨e0, e1, e2, e3⟩ := (hL3.below HB.out hbl3).rl
          obtain ⟨y0, h0⟩ : ∃ t, t = y.off := ⟨_, rfl⟩
          obtain ⟨y1, h1⟩ : ∃ t, t = y.kind := ⟨_, rfl⟩
          obtain ⟨y2, h2⟩ : ∃ t, t = tx y.name := ⟨_, rfl⟩
          obtain ⟨y3, h3⟩ : ∃ t, t = y.add := ⟨_, rfl⟩
          rw [← h0] at e0 j1 j2
          rw [← h1] at e1 j3 j4
          rw [← h2] at e2
          rw [← h3] at e3 j6 j7
          have HD1 := Lib.hid (fun W => dnum4 y0 j1 j2 W)
          have HD2 := Lib.hid (fun W => dnum1 y1 j3 j4 W)
          have HD3 := Lib.hid (fun W => dtext_any y2 (by rw [h2, tx_size]; exact j5) W)
          have HD4 := Lib.hid (fun W => dnum4 y3 j6 j7 W)
          obtain ⟨D1, hD1⟩ : ∃ T, T = tx (Wd.le y0.toNat 4) := ⟨_, rfl⟩
          obtain ⟨D2, hD2⟩ : ∃ T, T = tx (Wd.le y1.toNat 1) := ⟨_, rfl⟩
          obtain ⟨D3, hD3⟩ : ∃ T, T = tx (txt (by' y2)) := ⟨_, rfl⟩
          obtain ⟨D4, hD4⟩ : ∃ T, T = tx (Wd.le y3.toNat 4) := ⟨_, rfl⟩
          rw [← hD1] at HD1
          rw [← hD2] at HD2
          rw [← hD3] at HD3
          rw [← hD4] at HD4
          have sD1 : D1.size ≤ 4 := by rw [hD1, tx_size, Wd.le_length]; omega
          have sD2 : D2.size ≤ 1 := by rw [hD2, tx_size, Wd.le_length]; omega
          have sD3 : D3.size ≤ 65537 := by rw [hD3, h2, by_tx, tx_size, txt, List.length_append, Wd.le_length]; omega
          have sD4 : D4.size ≤ 4 := by rw [hD4, tx_size, Wd.le_length]; omega
          have HE : Hid (O ++ D1 ++ D2 ++ D3 ++ D4 = tx (preR on l k s (q + 1))) := Lib.hid (by
            rw [HO.out, hD1, hD2, hD3, hD4, h0, h1, h2, h3, by_tx]
            simp only [tx_append]
            unfold preR
            rw [hsn]
            simp only [encR, List.append_assoc])
          have hbr3 : b3 < wr.heap.size := Nat.lt_of_lt_of_le hbl3 HB.out.size
          have HB4 := Lib.hid (below_box HB.out (.cells #[.int .u32 y0, .int .u8 y1, .string y2, .int .u32 y3] 49))
          have HX4 := Lib.hid (HX.out.alloc (.cells #[.int .u32 y0, .int .u8 y1, .string y2, .int .u32 y3] 49))
          have HY4 := Lib.hid (HY.out.alloc (.cells #[.int .u32 y0, .int .u8 y1, .string y2, .int .u32 y3] 49))
          have HZ4 := Lib.hid (Blk.new wr 49 [.int .u32 y0, .int .u8 y1, .string y2, .int .u32 y3])
          clear hrl hrf hri hcl3 hL3 hsn hy h0 h1 h2 h3 hD1 hD2 hD3 hD4 j5 HO
          obtain ⟨gr, hgr⟩ : ∃ gr, gr = wr.heap.size := ⟨_, rfl⟩
          go_upto_region 11 with (fail)
          obtain ⟨w4, hw4⟩ : ∃ w4, w4 = wr.alloc (.cells #[.int .u32 y0, .int .u8 y1, .string y2, .int .u32 y3] 49) := ⟨_, rfl⟩
          rw [← hw4] at HB4 HX4 HY4 HZ4 ⊢
          rw [← hgr] at HZ4 ⊢
          clear hw4 hgr e0 e1 e2 e3 d5 hbr3 HB HX HY
          have HCr : Hid (∀ W, Below w4.heap.size w4 W → W.cell? ⟨gr, 0, none⟩ = some (.int .u32 y0) ∧ W.cell? ⟨gr, 1, none⟩ = some (.int .u8 y1) ∧ W.cell? ⟨gr, 2, none⟩ = some (.string y2) ∧ W.cell? ⟨gr, 3, none⟩ = some (.int .u32 y3)) := Lib.hid (fun W hW => ⟨(HZ4.out.call hW).cell 0, (HZ4.out.call hW).cell 1, (HZ4.out.call hW).cell 2, (HZ4.out.call hW).cell 3⟩)
          have hw1 : IntKind.u32.wrap y1 = y1 := IntWalk.u32_in _ (by omega)
          refine qy_region (C := fun W => Below w4.heap.size w4 W) (by kernel_rfl) (by kernel_rfl) (Below.refl _ _).drew ?_
          refine qy_by rfl (.string O) (fun W _ => by simp [go_sem]) ?_
          simp only [Act.put, List.setIfInBounds_toArray, List.set_cons_zero, List.set_cons_succ]
          refine qy_by rfl (.pointer (some ⟨gr, 0, none⟩)) (fun W _ => by simp [go_sem]) ?_
          simp only [Act.put, List.setIfInBounds_toArray, List.set_cons_zero, List.set_cons_succ]
          refine qy_by rfl (.int .u32 y0) (fun W hW => by simp [go_sem, (HCr.out W hW).1]) ?_
          simp only [Act.put, List.setIfInBounds_toArray, List.set_cons_zero, List.set_cons_succ]
          refine qy_call rfl 23 #[.int .u32 y0, .int .i64 4] (.string D1) (fun W _ => by simp [go_sem]) (fun W hW => (HD1.out W).mono fun e w' ⟨h1, h2⟩ => ⟨h1, below_call hW h2⟩) ?_
          simp only [Act.put, List.setIfInBounds_toArray, List.set_cons_zero, List.set_cons_succ]
          refine qy_by rfl (.string (O ++ D1)) (fun W _ => by simp [go_sem]; omega) ?_
          simp only [Act.put, List.setIfInBounds_toArray, List.set_cons_zero, List.set_cons_succ]
          refine qy_by rfl (.pointer (some ⟨gr, 1, none⟩)) (fun W _ => by simp [go_sem]) ?_
          simp only [Act.put, List.setIfInBounds_toArray, List.set_cons_zero, List.set_cons_succ]
          refine qy_by rfl (.int .u8 y1) (fun W hW => by simp [go_sem, (HCr.out W hW).2.1]) ?_
          simp only [Act.put, List.setIfInBounds_toArray, List.set_cons_zero, List.set_cons_succ]
          refine qy_by rfl (.int .u32 y1) (fun W _ => by simp [go_sem, hw1]) ?_
          simp only [Act.put, List.setIfInBounds_toArray, List.set_cons_zero, List.set_cons_succ]
          refine qy_call rfl 23 #[.int .u32 y1, .int .i64 1] (.string D2) (fun W _ => by simp [go_sem]) (fun W hW => (HD2.out W).mono fun e w' ⟨h1, h2⟩ => ⟨h1, below_call hW h2⟩) ?_
          simp only [Act.put, List.setIfInBounds_toArray, List.set_cons_zero, List.set_cons_succ]
          refine qy_by rfl (.string (O ++ D1 ++ D2)) (fun W _ => by simp [go_sem]; omega) ?_
          simp only [Act.put, List.setIfInBounds_toArray, List.set_cons_zero, List.set_cons_succ]
          refine qy_by rfl (.pointer (some ⟨gr, 2, none⟩)) (fun W _ => by simp [go_sem]) ?_
          simp only [Act.put, List.setIfInBounds_toArray, List.set_cons_zero, List.set_cons_succ]
          refine qy_by rfl (.string y2) (fun W hW => by simp [go_sem, (HCr.out W hW).2.2.1]) ?_
          simp only [Act.put, List.setIfInBounds_toArray, List.set_cons_zero, List.set_cons_succ]
          refine qy_call rfl 22 #[.string y2] (.string D3) (fun W _ => by simp [go_sem]) (fun W hW => (HD3.out W).mono fun e w' ⟨h1, h2⟩ => ⟨h1, below_call hW h2⟩) ?_
          simp only [Act.put, List.setIfInBounds_toArray, List.set_cons_zero, List.set_cons_succ]
          refine qy_by rfl (.string (O ++ D1 ++ D2 ++ D3)) (fun W _ => by simp [go_sem]; omega) ?_
          simp only [Act.put, List.setIfInBounds_toArray, List.set_cons_zero, List.set_cons_succ]
          refine qy_by rfl (.pointer (some ⟨gr, 3, none⟩)) (fun W _ => by simp [go_sem]) ?_
          simp only [Act.put, List.setIfInBounds_toArray, List.set_cons_zero, List.set_cons_succ]
          refine qy_by rfl (.int .u32 y3) (fun W hW => by simp [go_sem, (HCr.out W hW).2.2.2]) ?_
          simp only [Act.put, List.setIfInBounds_toArray, List.set_cons_zero, List.set_cons_succ]
          refine qy_call rfl 23 #[.int .u32 y3, .int .i64 4] (.string D4) (fun W _ => by simp [go_sem]) (fun W hW => (HD4.out W).mono fun e w' ⟨h1, h2⟩ => ⟨h1, below_call hW h2⟩) ?_
          simp only [Act.put, List.setIfInBounds_toArray, List.set_cons_zero, List.set_cons_succ]
          refine qy_by rfl (.string (O ++ D1 ++ D2 ++ D3 ++ D4)) (fun W _ => by simp [go_sem]; omega) ?_
          simp only [Act.put, List.setIfInBounds_toArray, List.set_cons_zero, List.set_cons_succ]
          refine qy_by rfl (.string (O ++ D1 ++ D2 ++ D3 ++ D4)) (fun W _ => by simp [go_sem]) ?_
          simp only [Act.put, List.setIfInBounds_toArray, List.set_cons_zero, List.set_cons_succ]
          refine wpQuiet_nil ?_
          intro w5 q5
          have HB5 := Lib.hid (below_call HB4.out q5)
          have HX5 := Lib.hid (HX4.out.call q5)
          have HY5 := Lib.hid (HY4.out.call q5)
          clear q5 HCr hw1 HB4 HX4 HY4 HZ4 HD1 HD2 HD3 HD4 j1 j2 j3 j4 j6 j7
          rw [HE.out]
          clear sD1 sD2 sD3 sD4 HE hOs
          obtain ⟨P1, hP1⟩ : ∃ P, P = tx (preR on l k s (q + 1)) := ⟨_, rfl⟩
          rw [← hP1]
          have HP1 := Lib.hid hP1
          clear hP1
          go_wp2_with fail
          go_roundw
          case rel => exact ⟨q + 1, P1, by omega, by go_num, rfl, HP1, HB5, HX5, HY5⟩
          case measure => simp [intOf]; omega
        · have hdq : decide (q < rn) = false := decide_eq_false hqr
          obtain rfl : rn = q := by omega
          have HE := Lib.hid (HEn.out O HO.out)
          clear hqr HO
          go_upto_region 12 with (fail)
          clear d5
          have d6 : wr.cell? ⟨gs, 6, none⟩ = some (.slice na nn nc) := HY.out.cell 6
          have hw1 : IntKind.u32.wrap (nn : Int) = nn := IntWalk.u32_in _ (by omega)
          go_wp2_with fail
          refine (HA7.out _).mono ?_; rintro e w4 ⟨rfl, q4⟩
          have HB4 := Lib.hid (below_call HB.out q4)
          have HX4 := Lib.hid (HX.out.call q4)
          have HY4 := Lib.hid (HY.out.call q4)
          clear q4 d6 hw1 HB HX HY
          have hsum : (O.size : Int) + (A7.size : Int) ≤ 9223372036854775807 := by omega
          obtain ⟨P2, hP2⟩ : ∃ P, P = O ++ A7 := ⟨_, rfl⟩
          rw [← hP2] at HE
          go_upto_region 13 with (fail)
          rw [← hP2]
          clear hP2 hsum sA7 hOs
          go_wp2_with fail
          go_loopw [3, 8] (fun t3 i wr => ∃ (q : Nat) (O : ByteArray), (q : Int) ≤ nn ∧ i = .int .i64 q ∧ t3 = .string O ∧ Hid (O = tx (preN on l k s q)) ∧ Hid (Below w.heap.size w wr) ∧ Hid (Blk wr w.heap.size 24 [.string M, .slice (some ⟨b, o, none⟩) n c]) ∧ Hid (Blk wr gs 47 [.string u0, .int .u8 u1, .int .u8 u2, .int .u32 u3, .string u4, .slice ra rn rc, .slice na nn nc])) (fun _ i _ => nn - (intOf i).toNat)
          case atStart => exact ⟨0, P2, by omega, rfl, rfl, HE, HB4, HX4, HY4⟩
          case round =>
            clear HE HB4 HX4 HY4
            obtain ⟨m, O, hm, rfl, rfl, HO, HB, HX, HY⟩ := hrel
            have d6 : wr.cell? ⟨gs, 6, none⟩ = some (.slice na nn nc) := HY.out.cell 6
            have hOs : O.size ≤ 4194304 := by rw [HO.out, tx_size]; exact HleN.out m
            by_cases hmn : m < nn
            · have hdm : decide (m < nn) = true := decide_eq_true hmn
              obtain ⟨hnl, hni⟩ := HNl.out
              obtain ⟨b3, o3, rfl, hbl3, hcl3⟩ := hnl (by omega)
              have hL3 := hcl3 m hmn
              obtain ⟨⟨j1, j2⟩, ⟨j3, j4⟩, ⟨j6, j7⟩⟩ := hni m hmn
              have hsn := HNs.out m hmn
              obtain ⟨y, hy⟩ : ∃ y, y = s.notes.getD m Nt.nought := ⟨_, rfl⟩
              rw [← hy] at hL3 j1 j2 j3 j4 j6 j7 hsn
              obtain ⟨e0, e1, e2⟩ := (hL3.below HB.out hbl3).nt
              obtain ⟨y0, h0⟩ : ∃ t, t = y.kind := ⟨_, rfl⟩
              obtain ⟨y1, h1⟩ : ∃ t, t = y.n := ⟨_, rfl⟩
              obtain ⟨y2, h2⟩ : ∃ t, t = y.m := ⟨_, rfl⟩
              rw [← h0] at e0 j1 j2
              rw [← h1] at e1 j3 j4
              rw [← h2] at e2 j6 j7
              have HD1 := Lib.hid (fun W => dnum1 y0 j1 j2 W)
              have HD2 := Lib.hid (fun W => dnum4 y1 j3 j4 W)
              have HD3 := Lib.hid (fun W => dnum4 y2 j6 j7 W)
              obtain ⟨D1, hD1⟩ : ∃ T, T = tx (Wd.le y0.toNat 1) := ⟨_, rfl⟩
              obtain ⟨D2, hD2⟩ : ∃ T, T = tx (Wd.le y1.toNat 4) := ⟨_, rfl⟩
              obtain ⟨D3, hD3⟩ : ∃ T, T = tx (Wd.le y2.toNat 4) := ⟨_, rfl⟩
              rw [← hD1] at HD1
              rw [← hD2] at HD2
              rw [← hD3] at HD3
              have sD1 : D1.size ≤ 1 := by rw [hD1, tx_size, Wd.le_length]; omega
              have sD2 : D2.size ≤ 4 := by rw [hD2, tx_size, Wd.le_length]; omega
              have sD3 : D3.size ≤ 4 := by rw [hD3, tx_size, Wd.le_length]; omega
              have HE : Hid (O ++ D1 ++ D2 ++ D3 = tx (preN on l k s (m + 1))) := Lib.hid (by
                rw [HO.out, hD1, hD2, hD3, h0, h1, h2]
                simp only [tx_append]
                unfold preN
                rw [hsn]
                simp only [encN, List.append_assoc])
              have hbr3 : b3 < wr.heap.size := Nat.lt_of_lt_of_le hbl3 HB.out.size
              have HB4 := Lib.hid (below_box HB.out (.cells #[.int .u8 y0, .int .u32 y1, .int .u32 y2] 65))
              have HX4 := Lib.hid (HX.out.alloc (.cells #[.int .u8 y0, .int .u32 y1, .int .u32 y2] 65))
              have HY4 := Lib.hid (HY.out.alloc (.cells #[.int .u8 y0, .int .u32 y1, .int .u32 y2] 65))
              have HZ4 := Lib.hid (Blk.new wr 65 [.int .u8 y0, .int .u32 y1, .int .u32 y2])
              clear hnl hni hcl3 hL3 hsn hy h0 h1 h2 hD1 hD2 hD3 HO
              obtain ⟨gr, hgr⟩ : ∃ gr, gr = wr.heap.size := ⟨_, rfl⟩
              go_upto_region 17 with (fail)
              obtain ⟨w4, hw4⟩ : ∃ w4, w4 = wr.alloc (.cells #[.int .u8 y0, .int .u32 y1, .int .u32 y2] 65) := ⟨_, rfl⟩
              rw [← hw4] at HB4 HX4 HY4 HZ4 ⊢
              rw [← hgr] at HZ4 ⊢
              clear hw4 hgr e0 e1 e2 d6 hbr3 HB HX HY
              have HCr : Hid (∀ W, Below w4.heap.size w4 W → W.cell? ⟨gr, 0, none⟩ = some (.int .u8 y0) ∧ W.cell? ⟨gr, 1, none⟩ = some (.int .u32 y1) ∧ W.cell? ⟨gr, 2, none⟩ = some (.int .u32 y2)) := Lib.hid (fun W hW => ⟨(HZ4.out.call hW).cell 0, (HZ4.out.call hW).cell 1, (HZ4.out.call hW).cell 2⟩)
              have hw1 : IntKind.u32.wrap y0 = y0 := IntWalk.u32_in _ (by omega)
              refine qy_region (C := fun W => Below w4.heap.size w4 W) (by kernel_rfl) (by kernel_rfl) (Below.refl _ _).drew ?_
              refine qy_by rfl (.string O) (fun W _ => by simp [go_sem]) ?_
              simp only [Act.put, List.setIfInBounds_toArray, List.set_cons_zero, List.set_cons_succ]
              refine qy_by rfl (.pointer (some ⟨gr, 0, none⟩)) (fun W _ => by simp [go_sem]) ?_
              simp only [Act.put, List.setIfInBounds_toArray, List.set_cons_zero, List.set_cons_succ]
              refine qy_by rfl (.int .u8 y0) (fun W hW => by simp [go_sem, (HCr.out W hW).1]) ?_
              simp only [Act.put, List.setIfInBounds_toArray, List.set_cons_zero, List.set_cons_succ]
              refine qy_by rfl (.int .u32 y0) (fun W _ => by simp [go_sem, hw1]) ?_
              simp only [Act.put, List.setIfInBounds_toArray, List.set_cons_zero, List.set_cons_succ]
              refine qy_call rfl 23 #[.int .u32 y0, .int .i64 1] (.string D1) (fun W _ => by simp [go_sem]) (fun W hW => (HD1.out W).mono fun e w' ⟨h1, h2⟩ => ⟨h1, below_call hW h2⟩) ?_
              simp only [Act.put, List.setIfInBounds_toArray, List.set_cons_zero, List.set_cons_succ]
              refine qy_by rfl (.string (O ++ D1)) (fun W _ => by simp [go_sem]; omega) ?_
              simp only [Act.put, List.setIfInBounds_toArray, List.set_cons_zero, List.set_cons_succ]
              refine qy_by rfl (.pointer (some ⟨gr, 1, none⟩)) (fun W _ => by simp [go_sem]) ?_
              simp only [Act.put, List.setIfInBounds_toArray, List.set_cons_zero, List.set_cons_succ]
              refine qy_by rfl (.int .u32 y1) (fun W hW => by simp [go_sem, (HCr.out W hW).2.1]) ?_
              simp only [Act.put, List.setIfInBounds_toArray, List.set_cons_zero, List.set_cons_succ]
              refine qy_call rfl 23 #[.int .u32 y1, .int .i64 4] (.string D2) (fun W _ => by simp [go_sem]) (fun W hW => (HD2.out W).mono fun e w' ⟨h1, h2⟩ => ⟨h1, below_call hW h2⟩) ?_
              simp only [Act.put, List.setIfInBounds_toArray, List.set_cons_zero, List.set_cons_succ]
              refine qy_by rfl (.string (O ++ D1 ++ D2)) (fun W _ => by simp [go_sem]; omega) ?_
              simp only [Act.put, List.setIfInBounds_toArray, List.set_cons_zero, List.set_cons_succ]
              refine qy_by rfl (.pointer (some ⟨gr, 2, none⟩)) (fun W _ => by simp [go_sem]) ?_
              simp only [Act.put, List.setIfInBounds_toArray, List.set_cons_zero, List.set_cons_succ]
              refine qy_by rfl (.int .u32 y2) (fun W hW => by simp [go_sem, (HCr.out W hW).2.2]) ?_
              simp only [Act.put, List.setIfInBounds_toArray, List.set_cons_zero, List.set_cons_succ]
              refine qy_call rfl 23 #[.int .u32 y2, .int .i64 4] (.string D3) (fun W _ => by simp [go_sem]) (fun W hW => (HD3.out W).mono fun e w' ⟨h1, h2⟩ => ⟨h1, below_call hW h2⟩) ?_
              simp only [Act.put, List.setIfInBounds_toArray, List.set_cons_zero, List.set_cons_succ]
              refine qy_by rfl (.string (O ++ D1 ++ D2 ++ D3)) (fun W _ => by simp [go_sem]; omega) ?_
              simp only [Act.put, List.setIfInBounds_toArray, List.set_cons_zero, List.set_cons_succ]
              refine qy_by rfl (.string (O ++ D1 ++ D2 ++ D3)) (fun W _ => by simp [go_sem]) ?_
              simp only [Act.put, List.setIfInBounds_toArray, List.set_cons_zero, List.set_cons_succ]
              refine wpQuiet_nil ?_
              intro w5 q5
              have HB5 := Lib.hid (below_call HB4.out q5)
              have HX5 := Lib.hid (HX4.out.call q5)
              have HY5 := Lib.hid (HY4.out.call q5)
              clear q5 HCr hw1 HB4 HX4 HY4 HZ4 HD1 HD2 HD3 j1 j2 j3 j4 j6 j7
              rw [HE.out]
              clear sD1 sD2 sD3 HE hOs
              obtain ⟨P1, hP1⟩ : ∃ P, P = tx (preN on l k s (m + 1)) := ⟨_, rfl⟩
              rw [← hP1]
              have HP1 := Lib.hid hP1
              clear hP1
              go_wp2_with fail
              go_roundw
              case rel => exact ⟨m + 1, P1, by omega, by go_num, rfl, HP1, HB5, HX5, HY5⟩
              case measure => simp [intOf]; omega
            · have hdm : decide (m < nn) = false := decide_eq_false hmn
              obtain rfl : m = nn := by omega
              have HE : Hid (O = tx (pre on l (k + 1))) := Lib.hid (by rw [HPn.out]; exact HO.out)
              clear hmn HO
              go_wp2_with fail
              clear d6
              go_roundw
              case rel => exact ⟨k + 1, O, by omega, by go_num, rfl, HE, HB, HX⟩
              case measure => simp [intOf]; omega
    · have hd : decide (k < n) = false := decide_eq_false hlt
      obtain rfl : k = n := by omega
      have HE : Hid (O = tx (encO ⟨on, l⟩)) := Lib.hid (by
        rw [HO.out]
        unfold pre encO
        simp only
        rw [HN.out, List.take_length])
      clear hlt HO
      go_wp2_with fail
      go_ret
      exact ⟨congrArg (fun t => Ending.returned (.string t)) HE.out, HB.out⟩
end Go.Proofs.Ytbpdoiikleaidaa
