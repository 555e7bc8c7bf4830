/- The library's sort at numbers of 32 bits: bits.Len, nextPowerOfTwo, xorshift, breakPatterns (rows of fewer than 256). -/
import Derived.Test.YtfickpjecehboaaTF
import Derived.Laws.Bits64b
set_option linter.unusedVariables false
namespace Go.Proofs.Ytfickpjecehboaa
open Go.RowKit Go.Sort

def lens : List UInt8 := [0, 1, 2, 2] ++ List.replicate 4 3 ++ List.replicate 8 4 ++ List.replicate 16 5 ++ List.replicate 32 6 ++ List.replicate 64 7 ++ List.replicate 128 8
theorem lens_at : ∀ k : Fin 256, lens[k.val]?.map UInt8.toNat = some (bitsLen k.val) := by decide +kernel
theorem bitsLen8 : ∀ k : Fin 256, bitsLen k.val ≤ 8 := by decide +kernel

theorem run_index8 (s : ByteArray) (k z : Nat) (h : s.data.toList[k]?.map UInt8.toNat = some z) (W : World) : (Instr.index 9 (.string s) (.int .u8 (k : Int))).run Try.prog W = .ok (.int .u8 (z : Int)) W := by
  have hk : k < s.size := by
    rcases Nat.lt_or_ge k s.size with h' | h'
    · exact h'
    · rw [List.getElem?_eq_none (show s.data.toList.length ≤ k from h')] at h; cases h
  have e : (s[k].toNat : Int) = (z : Int) := by
    rw [List.getElem?_eq_getElem (show k < s.data.toList.length from hk)] at h
    simp only [Option.map_some, Option.some.injEq] at h
    rw [← h]
    rfl
  have hk' : (k : Int) < (s.size : Int) := by omega
  rw [← e]
  simp [go_sem, hk']
theorem wpList_index8 {w : World} {ops : Array Oper} {rest : List Oper} {o : Oper} {a : Act} {Q : Exit → Act → World → Prop} (hg : o.guard = none) (x y : Operand) (hop : o.op = Op.index 9 x y)
    (s : ByteArray) (k z : Nat) (hx : a.eval x = .string s) (hy : a.eval y = .int .u8 (k : Int)) (h : s.data.toList[k]?.map UInt8.toNat = some z)
    (hK : wpList Try.prog ops Q rest (a.put o.dst (.int .u8 (z : Int))) w) : wpList Try.prog ops Q (o :: rest) a w := by
  refine wpList_plain hg fun K' hK' => ?_
  unfold Oper.wp
  simp [execOp, hop, hx, hy, run_index8 s k z h w, Result.andThen]
  exact hK' _ _ hK

set_option maxHeartbeats 1000000 in
set_option maxRecDepth 100000 in
theorem len64_any (x : Nat) (hx : x < 256) (w : World) : Calls Try.prog 65 #[.int .u64 (x : Int)] w fun e w' => e = .returned (.int .i64 (bitsLen x : Nat)) ∧ w' = w := by
  have d1 : decide ((4294967296 : Int) ≤ (x : Int)) = false := decide_eq_false (by omega)
  have d2 : decide ((65536 : Int) ≤ (x : Int)) = false := decide_eq_false (by omega)
  have d3 : decide ((256 : Int) ≤ (x : Int)) = false := decide_eq_false (by omega)
  have e1 : IntKind.u8.wrap (x : Int) = (x : Int) := by rw [IntKind.wrap_u8']; omega
  have hb := bitsLen8 ⟨x, hx⟩
  simp only at hb
  have hl : lens[x]?.map UInt8.toNat = some (bitsLen x) := lens_at ⟨x, hx⟩
  obtain ⟨z, hz⟩ : ∃ z, z = bitsLen x := ⟨_, rfl⟩
  rw [← hz] at hb hl ⊢
  have e2 : IntKind.i64.wrap (z : Int) = (z : Int) := by rw [IntKind.wrap_i64]; omega
  clear hz hx hb
  go_enter Try.func65, Try.ntmps65
  go_wp2_with (refine wpList_index8 rfl _ _ rfl _ x z rfl rfl hl ?_)
  go_ret
  exact ⟨rfl, rfl⟩

set_option maxHeartbeats 1000000 in
set_option maxRecDepth 100000 in
theorem len_any (x : Nat) (hx : x < 256) (w : World) : Calls Try.prog 52 #[.int .u64 (x : Int)] w fun e w' => e = .returned (.int .i64 (bitsLen x : Nat)) ∧ w' = w := by
  have HL := Lib.hid (len64_any x hx w)
  clear hx
  go_enter Try.func52, Try.ntmps52
  go_wp2_with (go_at_call 65; refine HL.out.mono ?_; rintro e w' ⟨rfl, rfl⟩)
  go_ret
  exact ⟨rfl, rfl⟩

theorem pow8 : ∀ z : Fin 9, IntKind.u64.wrap ((2 : Int) ^ z.val) = ((2 ^ z.val : Nat) : Int) := by decide +kernel
set_option maxHeartbeats 1000000 in
set_option maxRecDepth 100000 in
theorem nextPow_any (x : Nat) (hx : x < 256) (w : World) : Calls Try.prog 69 #[.int .i64 (x : Int)] w fun e w' => e = .returned (.int .u64 ((2 ^ bitsLen x : Nat) : Int)) ∧ w' = w := by
  have HL := Lib.hid (len_any x hx w)
  have e1 : IntKind.u64.wrap (x : Int) = (x : Int) := by rw [IntKind.wrap_u64]; omega
  have hb := bitsLen8 ⟨x, hx⟩
  simp only at hb
  have hp := pow8 ⟨bitsLen x, by omega⟩
  simp only at hp
  obtain ⟨z, hz⟩ : ∃ z, z = bitsLen x := ⟨_, rfl⟩
  rw [← hz] at HL hp hb ⊢
  have hz64 : decide ((64 : Int) ≤ (z : Int)) = false := decide_eq_false (by omega)
  have hz0 : (0 : Int) ≤ (z : Int) := by omega
  clear hx hz
  go_enter Try.func69, Try.ntmps69
  go_wp2_with (go_at_call 52; refine HL.out.mono ?_; rintro e w' ⟨rfl, rfl⟩)
  go_ret
  refine ⟨?_, rfl⟩
  rw [Int.natCast_pow]
  rfl

set_option maxHeartbeats 2000000 in
set_option maxRecDepth 100000 in
theorem next_any (sp : Nat) (r : Int) (w : World) (h : Blk w sp 112 [.int .u64 r]) :
    Calls Try.prog 70 #[.pointer (some ⟨sp, 0, none⟩)] w fun e w' => (∃ q : Int, e = .returned (.int .u64 q) ∧ Blk w' sp 112 [.int .u64 q]) ∧ w.grownBy w' (some sp) := by
  have c := h.cell 0
  have f := h.frozen 0
  have c' : w.cell? ⟨sp, 0, none⟩ = some (.int .u64 r) := c
  have H := Lib.hid h
  clear h c
  go_enter Try.func70, Try.ntmps70
  go_wp2_with fail
  go_region
  generalize bits BinOp.xor IntKind.u64 r (IntKind.u64.wrap (r * 8192)) = q1
  have HB1 := Lib.hid (((H.out).set_ 0 (.int .u64 q1)).drew)
  have HG1 : Hid (w.grownBy ((w).setCell ⟨sp, 0, none⟩ (.int .u64 q1)).drew (some sp)) := Lib.hid (only_drew (only_setCell (World.grownBy.refl w _) _ _))
  generalize ((w).setCell ⟨sp, 0, none⟩ (.int .u64 q1)).drew = v1 at HB1 HG1 ⊢
  have cc1 : v1.cell? ⟨sp, 0, none⟩ = some (.int .u64 q1) := HB1.out.cell 0
  have ff1 : v1.frozen? ⟨sp, 0, none⟩ = false := HB1.out.frozen 0
  clear c' f H
  go_wp2_with fail
  go_region
  generalize bits BinOp.xor IntKind.u64 q1 (q1 / 128) = q2
  have HB2 := Lib.hid (((HB1.out).set_ 0 (.int .u64 q2)).drew)
  have HG2 : Hid (w.grownBy ((v1).setCell ⟨sp, 0, none⟩ (.int .u64 q2)).drew (some sp)) := Lib.hid (only_drew (only_setCell HG1.out _ _))
  generalize ((v1).setCell ⟨sp, 0, none⟩ (.int .u64 q2)).drew = v2 at HB2 HG2 ⊢
  have cc2 : v2.cell? ⟨sp, 0, none⟩ = some (.int .u64 q2) := HB2.out.cell 0
  have ff2 : v2.frozen? ⟨sp, 0, none⟩ = false := HB2.out.frozen 0
  clear cc1 ff1 HB1 HG1
  go_wp2_with fail
  go_region
  generalize bits BinOp.xor IntKind.u64 q2 (IntKind.u64.wrap (q2 * 131072)) = q3
  have HB3 := Lib.hid (((HB2.out).set_ 0 (.int .u64 q3)).drew)
  have HG3 : Hid (w.grownBy ((v2).setCell ⟨sp, 0, none⟩ (.int .u64 q3)).drew (some sp)) := Lib.hid (only_drew (only_setCell HG2.out _ _))
  generalize ((v2).setCell ⟨sp, 0, none⟩ (.int .u64 q3)).drew = v3 at HB3 HG3 ⊢
  have cc3 : v3.cell? ⟨sp, 0, none⟩ = some (.int .u64 q3) := HB3.out.cell 0
  have ff3 : v3.frozen? ⟨sp, 0, none⟩ = false := HB3.out.frozen 0
  clear cc2 ff2 HB2 HG2
  go_wp2
  go_ret
  exact ⟨⟨q3, rfl, HB3.out⟩, HG3.out⟩

theorem and_mask (r : Int) (m : Nat) (hm : m < 18446744073709551616) : 0 ≤ bits BinOp.and IntKind.u64 r (m : Int) ∧ bits BinOp.and IntKind.u64 r (m : Int) ≤ m := by
  unfold bits
  simp only
  have h2 : ((BitVec.ofInt IntKind.u64.bits r &&& BitVec.ofInt IntKind.u64.bits (m : Int)).toNat) ≤ m := by
    rw [BitVec.toNat_and]
    refine Nat.le_trans Nat.and_le_right ?_
    have : (BitVec.ofInt IntKind.u64.bits (m : Int)).toNat = m := by
      rw [BitVec.toNat_ofInt]
      have hb : (2 ^ IntKind.u64.bits : Nat) = 18446744073709551616 := rfl
      rw [hb]
      omega
    omega
  rw [IntKind.wrap_u64]
  omega
theorem only_new {a b c : World} {g sp : Nat} (h : a.grownBy b (some g)) (k : b.grownBy c (some sp)) (hsp : a.heap.size ≤ sp) : a.grownBy c (some g) :=
  ⟨k.os.trans h.os, k.tape.trans h.tape, k.output.trans h.output, Nat.le_trans h.size k.size, fun i hi hne => (k.block i (Nat.lt_of_lt_of_le hi h.size) (fun e => by injection e; omega)).trans (h.block i hi hne)⟩

set_option maxHeartbeats 2000000 in
set_option maxRecDepth 1000000 in
theorem break_any (P R : List Value) (g off cap a b : Nat) (d : Array Int) (w : World) (hH : Row P R w g off d) (hab : a + 12 < b) (hb : b ≤ d.size) (hsz : d.size < 256) :
    Calls Try.prog 57 #[.slice (some ⟨g, off, none⟩) d.size cap, .int .i64 a, .int .i64 b] w fun e w' =>
      e = .returned (.tuple #[]) ∧ (∃ d', PermIn a b d d' ∧ Row P R w' g off d') ∧ w.grownBy w' (some g) := by
  obtain ⟨l, hl⟩ : ∃ l, l = b - a := ⟨_, rfl⟩
  have e1 : (b : Int) - (a : Int) = (l : Int) := by omega
  obtain ⟨i0, hi0⟩ : ∃ i0, i0 = a + l / 4 * 2 := ⟨_, rfl⟩
  obtain ⟨q, hq⟩ : ∃ q, q = l / 4 := ⟨_, rfl⟩
  have e2 : (l : Int) / 4 = (q : Int) := by omega
  have e3 : (l : Int).tdiv 4 = (q : Int) := by rw [Int.tdiv_eq_ediv_of_nonneg (by omega)]; exact e2
  have e4 : (a : Int) + (q : Int) * 2 = (i0 : Int) := by omega
  have l8 : (8 : Int) ≤ (l : Int) := by omega
  have el : IntKind.u64.wrap (l : Int) = (l : Int) := by rw [IntKind.wrap_u64]; omega
  have HA : Hid (l = b - a ∧ i0 = a + l / 4 * 2) := Lib.hid ⟨hl, hi0⟩
  obtain ⟨M, hM⟩ : ∃ M, M = 2 ^ bitsLen l := ⟨_, rfl⟩
  have hM2 : M ≤ 2 * l := by rw [hM]; exact two_pow_bitsLen_le (by omega)
  have hM1 : l < M := by rw [hM]; exact lt_two_pow_bitsLen l
  have HN := Lib.hid (fun w => nextPow_any l (by omega) w)
  rw [← hM] at HN
  obtain ⟨m, hm⟩ : ∃ m, m = M - 1 := ⟨_, rfl⟩
  have e5 : IntKind.u64.wrap ((M : Int) - 1) = (m : Int) := by rw [IntKind.wrap_u64]; omega
  have em : IntKind.u64.wrap (m : Int) = (m : Int) := by rw [IntKind.wrap_u64]; omega
  have HM : Hid (m < 2 * l) := Lib.hid (by omega)
  have e6 : (M : Int) - 1 = (m : Int) := by omega
  have HW := Lib.hid hH
  clear hl hi0 hq hM hM1 hM2 hm hH
  go_enter Try.func57, Try.ntmps57
  go_wp2_with (go_at_call 69; refine (HN.out _).mono ?_; rintro e w' ⟨rfl, rfl⟩)
  obtain ⟨sp, hsp⟩ : ∃ sp, sp = w.heap.size := ⟨_, rfl⟩
  have HX0 : Hid (Blk (w.alloc (.cells #[.int .u64 (l : Int)] 112)) sp 112 [.int .u64 (l : Int)]) := Lib.hid (by rw [hsp]; exact Blk.new w 112 [.int .u64 (l : Int)])
  have HR0 : Hid (Row P R (w.alloc (.cells #[.int .u64 (l : Int)] 112)) g off d) := Lib.hid (HW.out.below ((Below.refl _ w).alloc (Nat.le_refl _) _) HW.out.lt)
  have HG0 : Hid (w.grownBy (w.alloc (.cells #[.int .u64 (l : Int)] 112)) (some g)) := Lib.hid (World.grownBy_alloc w _ _)
  have HNE : Hid (sp ≠ g) := Lib.hid (by have := HW.out.lt; omega)
  have HSP : Hid (w.heap.size ≤ sp) := Lib.hid (by omega)
  rw [← hsp]
  clear hsp
  go_loopw [9, 10] (fun s9 s10 wr => ∃ (x : Nat) (dk : Array Int) (r : Int), s9 = .int .i64 x ∧ i0 ≤ x + 1 ∧ x ≤ i0 + 2 ∧ Hid (PermIn a b d dk) ∧ Hid (Row P R wr g off dk) ∧ Hid (Blk wr sp 112 [.int .u64 r]) ∧ Hid (w.grownBy wr (some g)))
      (fun s9 _ _ => ((i0 : Int) + 2 - intOf s9).toNat)
  case atStart => exact ⟨i0 - 1, d, l, by congr 1; have := HA.out; omega, by omega, by omega, Lib.hid (permIn_refl d a b), HR0, HX0, HG0⟩
  case round =>
    clear HX0 HR0 HG0
    obtain ⟨x, dk, r, rfl, hx1, hx2, HP, HRk, HXk, HGk⟩ := hrel
    have hsk : dk.size = d.size := HP.out.1
    by_cases hx : (x : Int) ≤ (i0 : Int) + 1
    · have HC := Lib.hid (next_any sp r wr HXk.out)
      go_wp2_with fail
      refine HC.out.mono ?_; rintro e w2 ⟨⟨q, rfl, hq⟩, gq⟩
      have HR2 := Lib.hid (HRk.out.other gq (fun e => HNE.out (by injection e with e; exact e.symm)))
      have HX2 := Lib.hid hq
      have HG2 := Lib.hid (only_new HGk.out gq HSP.out)
      obtain ⟨o1, o2⟩ := and_mask q m (by have := HM.out; have := HA.out; omega)
      obtain ⟨on, hon⟩ : ∃ on : Nat, bits BinOp.and IntKind.u64 q (m : Int) = (on : Int) := ⟨(bits BinOp.and IntKind.u64 q (m : Int)).toNat, by omega⟩
      have hom : on < 2 * l := by have := HM.out; omega
      have how : IntKind.i64.wrap (on : Int) = (on : Int) := by rw [IntKind.wrap_i64]; have := HA.out; omega
      clear o1 o2 hq gq HC HRk HXk HGk
      obtain ⟨G, hG⟩ : ∃ G : Nat → Int, ∀ t, G t = dk[t]! := ⟨fun t => dk[t]!, fun _ => rfl⟩
      have hcw : ∀ t, t < d.size → w2.cell? ⟨g, off + t, none⟩ = some (.int .u32 (G t)) := fun t ht => by
        rw [hG]; exact HR2.out.cell t (by omega)
      have hfw : ∀ t, t < d.size → w2.frozen? ⟨g, off + t, none⟩ = false := fun t _ => HR2.out.frozen t
      have HG : Hid (∀ t, G t = dk[t]!) := Lib.hid hG
      clear hG
      have hxr : x < d.size := by have := HA.out; omega
      by_cases hl2 : (l : Int) ≤ (on : Int)
      · obtain ⟨o', ho'⟩ : ∃ o', o' = on - l := ⟨_, rfl⟩
        have hoz : (on : Int) - (l : Int) = (o' : Int) := by omega
        have hor : a + o' < b := by have := HA.out; omega
        have HO' := Lib.hid ho'
        clear ho'
        rcases Nat.lt_trichotomy x (a + o') with hxo | hxo | hxo
        · have hne1 : ¬ x = a + o' := by omega
          have hne2 : ¬ a + o' = x := by omega
          go_wp2_with fail
          go_region
          have hs := swap_drew HR2.out HG2.out x (a + o') (by omega) (by omega) (HG.out (a + o')) (HG.out x)
          have hp := permIn_trans _ _ _ a b HP.out (swp_permIn dk a b x (a + o') (by have := HA.out; omega) (by have := HA.out; omega) (by omega) (by omega) (by omega))
          have hx2 := (HX2.out.far (p := ⟨g, off + x, none⟩) HNE.out (.int .u32 (G (a + o')))).far (p := ⟨g, off + (a + o'), none⟩) HNE.out (.int .u32 (G x))
          go_wp2
          go_roundw
          case rel => exact ⟨x + 1, swp dk x (a + o'), q, by go_num, by have := HA.out; omega, by have := HA.out; omega, Lib.hid hp, Lib.hid hs.1, Lib.hid hx2.drew, Lib.hid hs.2⟩
          case measure => simp [intOf] <;> omega
        · have hxz : (a : Int) + ((o' : Nat) : Int) = (x : Int) := by omega
          clear hxo
          go_wp2_with fail
          go_region
          have hs := swap_drew HR2.out HG2.out x x (by omega) (by omega) (HG.out x) (HG.out x)
          have hp := permIn_trans _ _ _ a b HP.out (swp_permIn dk a b x x (by have := HA.out; omega) (by have := HA.out; omega) (by have := HA.out; omega) (by have := HA.out; omega) (by omega))
          have hx2 := (HX2.out.far (p := ⟨g, off + x, none⟩) HNE.out (.int .u32 (G x))).far (p := ⟨g, off + x, none⟩) HNE.out (.int .u32 (G x))
          go_wp2
          go_roundw
          case rel => exact ⟨x + 1, swp dk x x, q, by go_num, by have := HA.out; omega, by have := HA.out; omega, Lib.hid hp, Lib.hid hs.1, Lib.hid hx2.drew, Lib.hid hs.2⟩
          case measure => simp [intOf] <;> omega
        · have hne1 : ¬ x = a + o' := by omega
          have hne2 : ¬ a + o' = x := by omega
          go_wp2_with fail
          go_region
          have hs := swap_drew HR2.out HG2.out x (a + o') (by omega) (by omega) (HG.out (a + o')) (HG.out x)
          have hp := permIn_trans _ _ _ a b HP.out (swp_permIn dk a b x (a + o') (by have := HA.out; omega) (by have := HA.out; omega) (by omega) (by omega) (by omega))
          have hx2 := (HX2.out.far (p := ⟨g, off + x, none⟩) HNE.out (.int .u32 (G (a + o')))).far (p := ⟨g, off + (a + o'), none⟩) HNE.out (.int .u32 (G x))
          go_wp2
          go_roundw
          case rel => exact ⟨x + 1, swp dk x (a + o'), q, by go_num, by have := HA.out; omega, by have := HA.out; omega, Lib.hid hp, Lib.hid hs.1, Lib.hid hx2.drew, Lib.hid hs.2⟩
          case measure => simp [intOf] <;> omega
      · have hor : a + on < b := by have := HA.out; omega
        rcases Nat.lt_trichotomy x (a + on) with hxo | hxo | hxo
        · have hne1 : ¬ x = a + on := by omega
          have hne2 : ¬ a + on = x := by omega
          go_wp2_with fail
          go_region
          have hs := swap_drew HR2.out HG2.out x (a + on) (by omega) (by omega) (HG.out (a + on)) (HG.out x)
          have hp := permIn_trans _ _ _ a b HP.out (swp_permIn dk a b x (a + on) (by have := HA.out; omega) (by have := HA.out; omega) (by omega) (by omega) (by omega))
          have hx2 := (HX2.out.far (p := ⟨g, off + x, none⟩) HNE.out (.int .u32 (G (a + on)))).far (p := ⟨g, off + (a + on), none⟩) HNE.out (.int .u32 (G x))
          go_wp2
          go_roundw
          case rel => exact ⟨x + 1, swp dk x (a + on), q, by go_num, by have := HA.out; omega, by have := HA.out; omega, Lib.hid hp, Lib.hid hs.1, Lib.hid hx2.drew, Lib.hid hs.2⟩
          case measure => simp [intOf] <;> omega
        · have hxz : (a : Int) + ((on : Nat) : Int) = (x : Int) := by omega
          clear hxo
          go_wp2_with fail
          go_region
          have hs := swap_drew HR2.out HG2.out x x (by omega) (by omega) (HG.out x) (HG.out x)
          have hp := permIn_trans _ _ _ a b HP.out (swp_permIn dk a b x x (by have := HA.out; omega) (by have := HA.out; omega) (by have := HA.out; omega) (by have := HA.out; omega) (by omega))
          have hx2 := (HX2.out.far (p := ⟨g, off + x, none⟩) HNE.out (.int .u32 (G x))).far (p := ⟨g, off + x, none⟩) HNE.out (.int .u32 (G x))
          go_wp2
          go_roundw
          case rel => exact ⟨x + 1, swp dk x x, q, by go_num, by have := HA.out; omega, by have := HA.out; omega, Lib.hid hp, Lib.hid hs.1, Lib.hid hx2.drew, Lib.hid hs.2⟩
          case measure => simp [intOf] <;> omega
        · have hne1 : ¬ x = a + on := by omega
          have hne2 : ¬ a + on = x := by omega
          go_wp2_with fail
          go_region
          have hs := swap_drew HR2.out HG2.out x (a + on) (by omega) (by omega) (HG.out (a + on)) (HG.out x)
          have hp := permIn_trans _ _ _ a b HP.out (swp_permIn dk a b x (a + on) (by have := HA.out; omega) (by have := HA.out; omega) (by omega) (by omega) (by omega))
          have hx2 := (HX2.out.far (p := ⟨g, off + x, none⟩) HNE.out (.int .u32 (G (a + on)))).far (p := ⟨g, off + (a + on), none⟩) HNE.out (.int .u32 (G x))
          go_wp2
          go_roundw
          case rel => exact ⟨x + 1, swp dk x (a + on), q, by go_num, by have := HA.out; omega, by have := HA.out; omega, Lib.hid hp, Lib.hid hs.1, Lib.hid hx2.drew, Lib.hid hs.2⟩
          case measure => simp [intOf] <;> omega
    · go_wp2
      go_end0
      exact ⟨rfl, ⟨dk, HP.out, HRk.out⟩, HGk.out⟩
end Go.Proofs.Ytfickpjecehboaa
