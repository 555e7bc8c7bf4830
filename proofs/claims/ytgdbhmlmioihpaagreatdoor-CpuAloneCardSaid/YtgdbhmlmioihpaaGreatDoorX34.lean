/- Some texts of one proof, one behind the other; each has its own head below. -/
import Derived.Test.YtgdbhmlmioihpaaGreatDoorX33
import Derived.Laws.Bits64b
/- The library's sort at numbers of 32 bits: bits.Len, nextPowerOfTwo, xorshift, breakPatterns (rows of fewer than 256). -/
section
set_option linter.unusedVariables false
namespace Go.Proofs.YtgdbhmlmioihpaaGreatDoor
open Go.RowKit Go.Sort

def lens : List UInt8 := [0, 1, 2, 2] ++ List.replicate 4 3 ++ List.replicate 8 4 ++ List.replicate 16 5 ++ List.replicate 32 6 ++ List.replicate 64 7 ++ List.replicate 128 8
theorem lens_at : ∀ k : Fin 256, lens[k.val]?.map UInt8.toNat = some (bitsLen k.val) := by decide +kernel
theorem bitsLen8 : ∀ k : Fin 256, bitsLen k.val ≤ 8 := by decide +kernel

theorem run_index8 (s : ByteArray) (k z : Nat) (h : s.data.toList[k]?.map UInt8.toNat = some z) (W : World) : (Instr.index 9 (.string s) (.int .u8 (k : Int))).run Tryz.prog W = .ok (.int .u8 (z : Int)) W := by
  have hk : k < s.size := by
    rcases Nat.lt_or_ge k s.size with h' | h'
    · exact h'
    · rw [List.getElem?_eq_none (show s.data.toList.length ≤ k from h')] at h; cases h
  have e : (s[k].toNat : Int) = (z : Int) := by
    rw [List.getElem?_eq_getElem (show k < s.data.toList.length from hk)] at h
    simp only [Option.map_some, Option.some.injEq] at h
    rw [← h]
    rfl
  have hk' : (k : Int) < (s.size : Int) := by omega
  rw [← e]
  simp [go_sem, hk']
theorem wpList_index8 {w : World} {ops : Array Oper} {rest : List Oper} {o : Oper} {a : Act} {Q : Exit → Act → World → Prop} (hg : o.guard = none) (x y : Operand) (hop : o.op = Op.index 9 x y)
    (s : ByteArray) (k z : Nat) (hx : a.eval x = .string s) (hy : a.eval y = .int .u8 (k : Int)) (h : s.data.toList[k]?.map UInt8.toNat = some z)
    (hK : wpList Tryz.prog ops Q rest (a.put o.dst (.int .u8 (z : Int))) w) : wpList Tryz.prog ops Q (o :: rest) a w := by
  refine wpList_plain hg fun K' hK' => ?_
  unfold Oper.wp
  simp [execOp, hop, hx, hy, run_index8 s k z h w, Result.andThen]
  exact hK' _ _ hK

set_option maxHeartbeats 1000000 in
set_option maxRecDepth 100000 in
theorem len64_any (x : Nat) (hx : x < 256) (w : World) : Calls Tryz.prog 119 #[.int .u64 (x : Int)] w fun e w' => e = .returned (.int .i64 (bitsLen x : Nat)) ∧ w' = w := by
  have d1 : decide ((4294967296 : Int) ≤ (x : Int)) = false := decide_eq_false (by omega)
  have d2 : decide ((65536 : Int) ≤ (x : Int)) = false := decide_eq_false (by omega)
  have d3 : decide ((256 : Int) ≤ (x : Int)) = false := decide_eq_false (by omega)
  have e1 : IntKind.u8.wrap (x : Int) = (x : Int) := by rw [IntKind.wrap_u8']; omega
  have hb := bitsLen8 ⟨x, hx⟩
  simp only at hb
  have hl : lens[x]?.map UInt8.toNat = some (bitsLen x) := lens_at ⟨x, hx⟩
  obtain ⟨z, hz⟩ : ∃ z, z = bitsLen x := ⟨_, rfl⟩
  rw [← hz] at hb hl ⊢
  have e2 : IntKind.i64.wrap (z : Int) = (z : Int) := by rw [IntKind.wrap_i64]; omega
  clear hz hx hb
  go_enter Tryz.func119, Tryz.ntmps119
  go_wp2_with (refine wpList_index8 rfl _ _ rfl _ x z rfl rfl hl ?_)
  go_ret
  exact ⟨rfl, rfl⟩

set_option maxHeartbeats 1000000 in
set_option maxRecDepth 100000 in
theorem len_any (x : Nat) (hx : x < 256) (w : World) : Calls Tryz.prog 97 #[.int .u64 (x : Int)] w fun e w' => e = .returned (.int .i64 (bitsLen x : Nat)) ∧ w' = w := by
  have HL := Lib.hid (len64_any x hx w)
  clear hx
  go_enter Tryz.func97, Tryz.ntmps97
  go_wp2_with (go_at_call 119; refine HL.out.mono ?_; rintro e w' ⟨rfl, rfl⟩)
  go_ret
  exact ⟨rfl, rfl⟩

theorem pow8 : ∀ z : Fin 9, IntKind.u64.wrap ((2 : Int) ^ z.val) = ((2 ^ z.val : Nat) : Int) := by decide +kernel
set_option maxHeartbeats 1000000 in
set_option maxRecDepth 100000 in
theorem nextPow_any (x : Nat) (hx : x < 256) (w : World) : Calls Tryz.prog 139 #[.int .i64 (x : Int)] w fun e w' => e = .returned (.int .u64 ((2 ^ bitsLen x : Nat) : Int)) ∧ w' = w := by
  have HL := Lib.hid (len_any x hx w)
  have e1 : IntKind.u64.wrap (x : Int) = (x : Int) := by rw [IntKind.wrap_u64]; omega
  have hb := bitsLen8 ⟨x, hx⟩
  simp only at hb
  have hp := pow8 ⟨bitsLen x, by omega⟩
  simp only at hp
  obtain ⟨z, hz⟩ : ∃ z, z = bitsLen x := ⟨_, rfl⟩
  rw [← hz] at HL hp hb ⊢
  have hz64 : decide ((64 : Int) ≤ (z : Int)) = false := decide_eq_false (by omega)
  have hz0 : (0 : Int) ≤ (z : Int) := by omega
  clear hx hz
  go_enter Tryz.func139, Tryz.ntmps139
  go_wp2_with (go_at_call 97; refine HL.out.mono ?_; rintro e w' ⟨rfl, rfl⟩)
  go_ret
  refine ⟨?_, rfl⟩
  rw [Int.natCast_pow]
  rfl

set_option maxHeartbeats 2000000 in
set_option maxRecDepth 100000 in
theorem next_any (sp : Nat) (r : Int) (w : World) (h : Blk w sp 175 [.int .u64 r]) :
    Calls Tryz.prog 140 #[.pointer (some ⟨sp, 0, none⟩)] w fun e w' => (∃ q : Int, e = .returned (.int .u64 q) ∧ Blk w' sp 175 [.int .u64 q]) ∧ w.grownBy w' (some sp) := by
  have c := h.cell 0
  have f := h.frozen 0
  have c' : w.cell? ⟨sp, 0, none⟩ = some (.int .u64 r) := c
  have H := Lib.hid h
  clear h c
  go_enter Tryz.func140, Tryz.ntmps140
  go_wp2_with fail
  go_region
  generalize bits BinOp.xor IntKind.u64 r (IntKind.u64.wrap (r * 8192)) = q1
  have HB1 := Lib.hid (((H.out).set_ 0 (.int .u64 q1)).drew)
  have HG1 : Hid (w.grownBy ((w).setCell ⟨sp, 0, none⟩ (.int .u64 q1)).drew (some sp)) := Lib.hid (only_drew (only_setCell (World.grownBy.refl w _) _ _))
  generalize ((w).setCell ⟨sp, 0, none⟩ (.int .u64 q1)).drew = v1 at HB1 HG1 ⊢
  have cc1 : v1.cell? ⟨sp, 0, none⟩ = some (.int .u64 q1) := HB1.out.cell 0
  have ff1 : v1.frozen? ⟨sp, 0, none⟩ = false := HB1.out.frozen 0
  clear c' f H
  go_wp2_with fail
  go_region
  generalize bits BinOp.xor IntKind.u64 q1 (q1 / 128) = q2
  have HB2 := Lib.hid (((HB1.out).set_ 0 (.int .u64 q2)).drew)
  have HG2 : Hid (w.grownBy ((v1).setCell ⟨sp, 0, none⟩ (.int .u64 q2)).drew (some sp)) := Lib.hid (only_drew (only_setCell HG1.out _ _))
  generalize ((v1).setCell ⟨sp, 0, none⟩ (.int .u64 q2)).drew = v2 at HB2 HG2 ⊢
  have cc2 : v2.cell? ⟨sp, 0, none⟩ = some (.int .u64 q2) := HB2.out.cell 0
  have ff2 : v2.frozen? ⟨sp, 0, none⟩ = false := HB2.out.frozen 0
  clear cc1 ff1 HB1 HG1
  go_wp2_with fail
  go_region
  generalize bits BinOp.xor IntKind.u64 q2 (IntKind.u64.wrap (q2 * 131072)) = q3
  have HB3 := Lib.hid (((HB2.out).set_ 0 (.int .u64 q3)).drew)
  have HG3 : Hid (w.grownBy ((v2).setCell ⟨sp, 0, none⟩ (.int .u64 q3)).drew (some sp)) := Lib.hid (only_drew (only_setCell HG2.out _ _))
  generalize ((v2).setCell ⟨sp, 0, none⟩ (.int .u64 q3)).drew = v3 at HB3 HG3 ⊢
  have cc3 : v3.cell? ⟨sp, 0, none⟩ = some (.int .u64 q3) := HB3.out.cell 0
  have ff3 : v3.frozen? ⟨sp, 0, none⟩ = false := HB3.out.frozen 0
  clear cc2 ff2 HB2 HG2
  go_wp2
  go_ret
  exact ⟨⟨q3, rfl, HB3.out⟩, HG3.out⟩

theorem and_mask (r : Int) (m : Nat) (hm : m < 18446744073709551616) : 0 ≤ bits BinOp.and IntKind.u64 r (m : Int) ∧ bits BinOp.and IntKind.u64 r (m : Int) ≤ m := by
  unfold bits
  simp only
  have h2 : ((BitVec.ofInt IntKind.u64.bits r &&& BitVec.ofInt IntKind.u64.bits (m : Int)).toNat) ≤ m := by
    rw [BitVec.toNat_and]
    refine Nat.le_trans Nat.and_le_right ?_
    have : (BitVec.ofInt IntKind.u64.bits (m : Int)).toNat = m := by
      rw [BitVec.toNat_ofInt]
      have hb : (2 ^ IntKind.u64.bits : Nat) = 18446744073709551616 := rfl
      rw [hb]
      omega
    omega
  rw [IntKind.wrap_u64]
  omega
theorem only_new {a b c : World} {g sp : Nat} (h : a.grownBy b (some g)) (k : b.grownBy c (some sp)) (hsp : a.heap.size ≤ sp) : a.grownBy c (some g) :=
  ⟨k.os.trans h.os, k.tape.trans h.tape, k.output.trans h.output, Nat.le_trans h.size k.size, fun i hi hne => (k.block i (Nat.lt_of_lt_of_le hi h.size) (fun e => by injection e; omega)).trans (h.block i hi hne)⟩

set_option maxHeartbeats 2000000 in
set_option maxRecDepth 1000000 in
theorem break_any (P R : List Value) (g off cap a b : Nat) (d : Array Int) (w : World) (hH : Row P R w g off d) (hab : a + 12 < b) (hb : b ≤ d.size) (hsz : d.size < 256) :
    Calls Tryz.prog 111 #[.slice (some ⟨g, off, none⟩) d.size cap, .int .i64 a, .int .i64 b] w fun e w' =>
      e = .returned (.tuple #[]) ∧ (∃ d', PermIn a b d d' ∧ Row P R w' g off d') ∧ w.grownBy w' (some g) := by
  obtain ⟨l, hl⟩ : ∃ l, l = b - a := ⟨_, rfl⟩
  have e1 : (b : Int) - (a : Int) = (l : Int) := by omega
  obtain ⟨i0, hi0⟩ : ∃ i0, i0 = a + l / 4 * 2 := ⟨_, rfl⟩
  obtain ⟨q, hq⟩ : ∃ q, q = l / 4 := ⟨_, rfl⟩
  have e2 : (l : Int) / 4 = (q : Int) := by omega
  have e3 : (l : Int).tdiv 4 = (q : Int) := by rw [Int.tdiv_eq_ediv_of_nonneg (by omega)]; exact e2
  have e4 : (a : Int) + (q : Int) * 2 = (i0 : Int) := by omega
  have l8 : (8 : Int) ≤ (l : Int) := by omega
  have el : IntKind.u64.wrap (l : Int) = (l : Int) := by rw [IntKind.wrap_u64]; omega
  have HA : Hid (l = b - a ∧ i0 = a + l / 4 * 2) := Lib.hid ⟨hl, hi0⟩
  obtain ⟨M, hM⟩ : ∃ M, M = 2 ^ bitsLen l := ⟨_, rfl⟩
  have hM2 : M ≤ 2 * l := by rw [hM]; exact two_pow_bitsLen_le (by omega)
  have hM1 : l < M := by rw [hM]; exact lt_two_pow_bitsLen l
  have HN := Lib.hid (fun w => nextPow_any l (by omega) w)
  rw [← hM] at HN
  obtain ⟨m, hm⟩ : ∃ m, m = M - 1 := ⟨_, rfl⟩
  have e5 : IntKind.u64.wrap ((M : Int) - 1) = (m : Int) := by rw [IntKind.wrap_u64]; omega
  have em : IntKind.u64.wrap (m : Int) = (m : Int) := by rw [IntKind.wrap_u64]; omega
  have HM : Hid (m < 2 * l) := Lib.hid (by omega)
  have e6 : (M : Int) - 1 = (m : Int) := by omega
  have HW := Lib.hid hH
  clear hl hi0 hq hM hM1 hM2 hm hH
  go_enter Tryz.func111, Tryz.ntmps111
  go_wp2_with (go_at_call 139; refine (HN.out _).mono ?_; rintro e w' ⟨rfl, rfl⟩)
  obtain ⟨sp, hsp⟩ : ∃ sp, sp = w.heap.size := ⟨_, rfl⟩
  have HX0 : Hid (Blk (w.alloc (.cells #[.int .u64 (l : Int)] 175)) sp 175 [.int .u64 (l : Int)]) := Lib.hid (by rw [hsp]; exact Blk.new w 175 [.int .u64 (l : Int)])
  have HR0 : Hid (Row P R (w.alloc (.cells #[.int .u64 (l : Int)] 175)) g off d) := Lib.hid (HW.out.below ((Below.refl _ w).alloc (Nat.le_refl _) _) HW.out.lt)
  have HG0 : Hid (w.grownBy (w.alloc (.cells #[.int .u64 (l : Int)] 175)) (some g)) := Lib.hid (World.grownBy_alloc w _ _)
  have HNE : Hid (sp ≠ g) := Lib.hid (by have := HW.out.lt; omega)
  have HSP : Hid (w.heap.size ≤ sp) := Lib.hid (by omega)
  rw [← hsp]
  clear hsp
  go_loopw [9, 10] (fun s9 s10 wr => ∃ (x : Nat) (dk : Array Int) (r : Int), s9 = .int .i64 x ∧ i0 ≤ x + 1 ∧ x ≤ i0 + 2 ∧ Hid (PermIn a b d dk) ∧ Hid (Row P R wr g off dk) ∧ Hid (Blk wr sp 175 [.int .u64 r]) ∧ Hid (w.grownBy wr (some g)))
      (fun s9 _ _ => ((i0 : Int) + 2 - intOf s9).toNat)
  case atStart => exact ⟨i0 - 1, d, l, by congr 1; have := HA.out; omega, by omega, by omega, Lib.hid (permIn_refl d a b), HR0, HX0, HG0⟩
  case round =>
    clear HX0 HR0 HG0
    obtain ⟨x, dk, r, rfl, hx1, hx2, HP, HRk, HXk, HGk⟩ := hrel
    have hsk : dk.size = d.size := HP.out.1
    by_cases hx : (x : Int) ≤ (i0 : Int) + 1
    · have HC := Lib.hid (next_any sp r wr HXk.out)
      go_wp2_with fail
      refine HC.out.mono ?_; rintro e w2 ⟨⟨q, rfl, hq⟩, gq⟩
      have HR2 := Lib.hid (HRk.out.other gq (fun e => HNE.out (by injection e with e; exact e.symm)))
      have HX2 := Lib.hid hq
      have HG2 := Lib.hid (only_new HGk.out gq HSP.out)
      obtain ⟨o1, o2⟩ := and_mask q m (by have := HM.out; have := HA.out; omega)
      obtain ⟨on, hon⟩ : ∃ on : Nat, bits BinOp.and IntKind.u64 q (m : Int) = (on : Int) := ⟨(bits BinOp.and IntKind.u64 q (m : Int)).toNat, by omega⟩
      have hom : on < 2 * l := by have := HM.out; omega
      have how : IntKind.i64.wrap (on : Int) = (on : Int) := by rw [IntKind.wrap_i64]; have := HA.out; omega
      clear o1 o2 hq gq HC HRk HXk HGk
      obtain ⟨G, hG⟩ : ∃ G : Nat → Int, ∀ t, G t = dk[t]! := ⟨fun t => dk[t]!, fun _ => rfl⟩
      have hcw : ∀ t, t < d.size → w2.cell? ⟨g, off + t, none⟩ = some (.int .u32 (G t)) := fun t ht => by
        rw [hG]; exact HR2.out.cell t (by omega)
      have hfw : ∀ t, t < d.size → w2.frozen? ⟨g, off + t, none⟩ = false := fun t _ => HR2.out.frozen t
      have HG : Hid (∀ t, G t = dk[t]!) := Lib.hid hG
      clear hG
      have hxr : x < d.size := by have := HA.out; omega
      by_cases hl2 : (l : Int) ≤ (on : Int)
      · obtain ⟨o', ho'⟩ : ∃ o', o' = on - l := ⟨_, rfl⟩
        have hoz : (on : Int) - (l : Int) = (o' : Int) := by omega
        have hor : a + o' < b := by have := HA.out; omega
        have HO' := Lib.hid ho'
        clear ho'
        rcases Nat.lt_trichotomy x (a + o') with hxo | hxo | hxo
        · have hne1 : ¬ x = a + o' := by omega
          have hne2 : ¬ a + o' = x := by omega
          go_wp2_with fail
          go_region
          have hs := swap_drew HR2.out HG2.out x (a + o') (by omega) (by omega) (HG.out (a + o')) (HG.out x)
          have hp := permIn_trans _ _ _ a b HP.out (swp_permIn dk a b x (a + o') (by have := HA.out; omega) (by have := HA.out; omega) (by omega) (by omega) (by omega))
          have hx2 := (HX2.out.far (p := ⟨g, off + x, none⟩) HNE.out (.int .u32 (G (a + o')))).far (p := ⟨g, off + (a + o'), none⟩) HNE.out (.int .u32 (G x))
          go_wp2
          go_roundw
          case rel => exact ⟨x + 1, swp dk x (a + o'), q, by go_num, by have := HA.out; omega, by have := HA.out; omega, Lib.hid hp, Lib.hid hs.1, Lib.hid hx2.drew, Lib.hid hs.2⟩
          case measure => simp [intOf] <;> omega
        · have hxz : (a : Int) + ((o' : Nat) : Int) = (x : Int) := by omega
          clear hxo
          go_wp2_with fail
          go_region
          have hs := swap_drew HR2.out HG2.out x x (by omega) (by omega) (HG.out x) (HG.out x)
          have hp := permIn_trans _ _ _ a b HP.out (swp_permIn dk a b x x (by have := HA.out; omega) (by have := HA.out; omega) (by have := HA.out; omega) (by have := HA.out; omega) (by omega))
          have hx2 := (HX2.out.far (p := ⟨g, off + x, none⟩) HNE.out (.int .u32 (G x))).far (p := ⟨g, off + x, none⟩) HNE.out (.int .u32 (G x))
          go_wp2
          go_roundw
          case rel => exact ⟨x + 1, swp dk x x, q, by go_num, by have := HA.out; omega, by have := HA.out; omega, Lib.hid hp, Lib.hid hs.1, Lib.hid hx2.drew, Lib.hid hs.2⟩
          case measure => simp [intOf] <;> omega
        · have hne1 : ¬ x = a + o' := by omega
          have hne2 : ¬ a + o' = x := by omega
          go_wp2_with fail
          go_region
          have hs := swap_drew HR2.out HG2.out x (a + o') (by omega) (by omega) (HG.out (a + o')) (HG.out x)
          have hp := permIn_trans _ _ _ a b HP.out (swp_permIn dk a b x (a + o') (by have := HA.out; omega) (by have := HA.out; omega) (by omega) (by omega) (by omega))
          have hx2 := (HX2.out.far (p := ⟨g, off + x, none⟩) HNE.out (.int .u32 (G (a + o')))).far (p := ⟨g, off + (a + o'), none⟩) HNE.out (.int .u32 (G x))
          go_wp2
          go_roundw
          case rel => exact ⟨x + 1, swp dk x (a + o'), q, by go_num, by have := HA.out; omega, by have := HA.out; omega, Lib.hid hp, Lib.hid hs.1, Lib.hid hx2.drew, Lib.hid hs.2⟩
          case measure => simp [intOf] <;> omega
      · have hor : a + on < b := by have := HA.out; omega
        rcases Nat.lt_trichotomy x (a + on) with hxo | hxo | hxo
        · have hne1 : ¬ x = a + on := by omega
          have hne2 : ¬ a + on = x := by omega
          go_wp2_with fail
          go_region
          have hs := swap_drew HR2.out HG2.out x (a + on) (by omega) (by omega) (HG.out (a + on)) (HG.out x)
          have hp := permIn_trans _ _ _ a b HP.out (swp_permIn dk a b x (a + on) (by have := HA.out; omega) (by have := HA.out; omega) (by omega) (by omega) (by omega))
          have hx2 := (HX2.out.far (p := ⟨g, off + x, none⟩) HNE.out (.int .u32 (G (a + on)))).far (p := ⟨g, off + (a + on), none⟩) HNE.out (.int .u32 (G x))
          go_wp2
          go_roundw
          case rel => exact ⟨x + 1, swp dk x (a + on), q, by go_num, by have := HA.out; omega, by have := HA.out; omega, Lib.hid hp, Lib.hid hs.1, Lib.hid hx2.drew, Lib.hid hs.2⟩
          case measure => simp [intOf] <;> omega
        · have hxz : (a : Int) + ((on : Nat) : Int) = (x : Int) := by omega
          clear hxo
          go_wp2_with fail
          go_region
          have hs := swap_drew HR2.out HG2.out x x (by omega) (by omega) (HG.out x) (HG.out x)
          have hp := permIn_trans _ _ _ a b HP.out (swp_permIn dk a b x x (by have := HA.out; omega) (by have := HA.out; omega) (by have := HA.out; omega) (by have := HA.out; omega) (by omega))
          have hx2 := (HX2.out.far (p := ⟨g, off + x, none⟩) HNE.out (.int .u32 (G x))).far (p := ⟨g, off + x, none⟩) HNE.out (.int .u32 (G x))
          go_wp2
          go_roundw
          case rel => exact ⟨x + 1, swp dk x x, q, by go_num, by have := HA.out; omega, by have := HA.out; omega, Lib.hid hp, Lib.hid hs.1, Lib.hid hx2.drew, Lib.hid hs.2⟩
          case measure => simp [intOf] <;> omega
        · have hne1 : ¬ x = a + on := by omega
          have hne2 : ¬ a + on = x := by omega
          go_wp2_with fail
          go_region
          have hs := swap_drew HR2.out HG2.out x (a + on) (by omega) (by omega) (HG.out (a + on)) (HG.out x)
          have hp := permIn_trans _ _ _ a b HP.out (swp_permIn dk a b x (a + on) (by have := HA.out; omega) (by have := HA.out; omega) (by omega) (by omega) (by omega))
          have hx2 := (HX2.out.far (p := ⟨g, off + x, none⟩) HNE.out (.int .u32 (G (a + on)))).far (p := ⟨g, off + (a + on), none⟩) HNE.out (.int .u32 (G x))
          go_wp2
          go_roundw
          case rel => exact ⟨x + 1, swp dk x (a + on), q, by go_num, by have := HA.out; omega, by have := HA.out; omega, Lib.hid hp, Lib.hid hs.1, Lib.hid hx2.drew, Lib.hid hs.2⟩
          case measure => simp [intOf] <;> omega
    · go_wp2
      go_end0
      exact ⟨rfl, ⟨dk, HP.out, HRk.out⟩, HGk.out⟩
end Go.Proofs.YtgdbhmlmioihpaaGreatDoor
end

/- The library's sort at numbers of 32 bits: pdqsort, for rows of fewer than 256. -/
section
set_option linter.unusedVariables false
namespace Go.Proofs.YtgdbhmlmioihpaaGreatDoor
open Go.RowKit Go.Sort

/-- What pdqsort does, where at most N numbers are to be sorted. -/
def PdqAt (N : Nat) : Prop := ∀ (P R : List Value) (g off cap a b limit : Nat) (d : Array Int) (w : World), b - a ≤ N → Row P R w g off d → a ≤ b → b ≤ d.size → d.size < 256 → limit < 1000 → Sort.Below ltInt a b d →
  Calls Tryz.prog 96 #[.slice (some ⟨g, off, none⟩) d.size cap, .int .i64 a, .int .i64 b, .int .i64 limit] w fun e w' =>
    e = .returned (.tuple #[]) ∧ (∃ d', PermIn a b d d' ∧ SortedIn ltInt a b d' ∧ Row P R w' g off d') ∧ w.grownBy w' (some g)

set_option maxHeartbeats 4000000 in
set_option maxRecDepth 1000000 in
theorem pdq_step (N : Nat) (ih : ∀ m, m < N → PdqAt m) : PdqAt N := by
  intro P R g off cap a b limit d w hN hH hab hb hsz hlim hB
  have IH := Lib.hid ih
  have HR := Lib.hid hH
  have HB := Lib.hid hB
  have HN := Lib.hid hN
  have HS := Lib.hid (And.intro hb hsz)
  clear ih hH hB hN
  go_enter Tryz.func96, Tryz.ntmps96
  go_wp2_with fail
  go_loopw [1, 2, 3, 8, 9] (fun s1 s2 s3 s8 s9 wr => ∃ (x y lim : Nat) (bal prt : Bool) (dk : Array Int), s1 = .int .i64 x ∧ s2 = .int .i64 y ∧ s3 = .int .i64 lim ∧ s8 = .bool bal ∧ s9 = .bool prt ∧ Hid (a ≤ x ∧ x ≤ y ∧ y ≤ b ∧ lim < 1000 ∧ dk.size = d.size) ∧
      Hid (Row P R wr g off dk) ∧ Hid (w.grownBy wr (some g)) ∧ Hid (Sort.Below ltInt x y dk) ∧ Hid (∀ Z, PermIn x y dk Z → SortedIn ltInt x y Z → PermIn a b d Z ∧ SortedIn ltInt a b Z)) (fun s1 s2 _ _ _ _ => (intOf s2 - intOf s1).toNat)
  case atStart => exact ⟨a, b, limit, true, true, d, rfl, rfl, rfl, rfl, rfl, Lib.hid ⟨Nat.le_refl _, hab, Nat.le_refl _, hlim, rfl⟩, HR, Lib.hid (World.grownBy.refl w _), HB, Lib.hid (fun Z h1 h2 => ⟨h1, h2⟩)⟩
  case round =>
    obtain ⟨x, y, lim, bal, prt, dk, rfl, rfl, rfl, rfl, rfl, HI, HRk, HGk, HBk, HQ⟩ := hrel
    have hsk : dk.size = d.size := HI.out.2.2.2.2
    have hax := HI.out.1
    have hxy := HI.out.2.1
    have hyb := HI.out.2.2.1
    have hlm := HI.out.2.2.2.1
    by_cases h12 : (y : Int) - (x : Int) ≤ 12
    · have HC := Lib.hid (insertion_any P R g off cap x y dk wr HRk.out HI.out.2.1 (by have := HI.out; omega) (by omega))
      rw [hsk] at HC
      have HZ := Lib.hid (insertionSort_holds swo_ltInt dk x y HI.out.2.1 (by have := HI.out; omega))
      go_wp2_with (go_at_call 109; refine HC.out.mono ?_; rintro e w2 ⟨rfl, h2, g2⟩)
      (try simp only [Exit.inBlock, Exit.then]); refine bodyPost_ret (results_none rfl _ _ _) rfl ?_
      have hz := HQ.out _ HZ.out.1 HZ.out.2
      exact ⟨rfl, ⟨_, hz.1, hz.2, h2⟩, only_trans HGk.out g2⟩
    by_cases hl0 : ((lim : Int) == 0) = true
    · have HC := Lib.hid (heap_any P R g off cap x y dk wr HRk.out (by omega) (by have := HI.out; omega) (by omega))
      rw [hsk] at HC
      have HZ := Lib.hid (heapSort_holds swo_ltInt dk x y HI.out.2.1 (by have := HI.out; omega))
      go_wp2_with (go_at_call 110; refine HC.out.mono ?_; rintro e w2 ⟨rfl, h2, g2⟩)
      (try simp only [Exit.inBlock, Exit.then]); refine bodyPost_ret (results_none rfl _ _ _) rfl ?_
      have hz := HQ.out _ HZ.out.1 HZ.out.2
      exact ⟨rfl, ⟨_, hz.1, hz.2, h2⟩, only_trans HGk.out g2⟩
    have hl0' : ((lim : Int) == 0) = false := by simpa using hl0
    have HL : Hid (1 ≤ lim) := Lib.hid (by simp at hl0; omega)
    clear hl0
    go_upto_if 35 with (fail)
    go_cut [3] (fun s3 wx => ∃ (lim' : Nat) (dj : Array Int), s3 = .int .i64 lim' ∧ Hid (lim' < 1000 ∧ PermIn x y dk dj) ∧ Hid (Row P R wx g off dj) ∧ Hid (w.grownBy wx (some g)))
    case first =>
      cases bal with
      | true =>
        go_wp2_with fail
        go_meet
        exact ⟨lim, dk, rfl, Lib.hid ⟨HI.out.2.2.2.1, permIn_refl dk x y⟩, HRk, HGk⟩
      | false =>
        have HC := Lib.hid (break_any P R g off cap x y dk wr HRk.out (by omega) (by have := HI.out; omega) (by omega))
        rw [hsk] at HC
        go_wp2_with (go_at_call 111; refine HC.out.mono ?_; rintro e w2 ⟨rfl, ⟨dj, hp, h2⟩, g2⟩)
        go_meet
        exact ⟨lim - 1, dj, by congr 1; have := HL.out; omega, Lib.hid ⟨by have := HI.out; omega, hp⟩, Lib.hid h2, Lib.hid (only_trans HGk.out g2)⟩
    case rest =>
      obtain ⟨lim1, d1, rfl, HP1, HR1, HG1⟩ := hcut
      clear HRk HGk HL hl0'
      have hs1 : d1.size = d.size := by rw [HP1.out.2.1]; exact hsk
      have HB1 := Lib.hid (HBk.out.perm (by omega) HP1.out.2)
      have HCp := Lib.hid (pivot_any P R g off cap x y d1 wc HR1.out (by omega) (by omega) (by omega))
      rw [hs1] at HCp
      go_upto_region 10 with (fail)
      go_wp2_with fail
      refine HCp.out.mono ?_; rintro e w2 ⟨⟨p0, h0, rfl, hp1, hp2⟩, q2⟩
      have HR2 := Lib.hid (HR1.out.below q2 HR1.out.lt)
      have HG2 : Hid (w.grownBy w2 (some g)) := Lib.hid (only_trans HG1.out ⟨q2.os, q2.tape, q2.output, q2.size, fun i hi _ => q2.block i hi⟩)
      have HPV := Lib.hid (And.intro hp1 hp2)
      clear HCp HR1 HG1 q2 hp1 hp2 HBk
      go_upto_if 50 with (fail)
      go_cut [11, 12] (fun s11 s12 wx => ∃ (p' : Nat) (h' : Int) (dj : Array Int), s11 = .int .i64 p' ∧ s12 = .int .i64 h' ∧ Hid (x < p' ∧ p' < y ∧ PermIn x y d1 dj) ∧ Hid (Row P R wx g off dj) ∧ Hid (w.grownBy wx (some g)))
      case first =>
        by_cases hh : (h0 == 2) = true
        · have HC := Lib.hid (reverse_any P R g off cap x y d1 w2 HR2.out (by omega) (by omega) (by omega))
          rw [hs1] at HC
          have HZ := Lib.hid (reverseRange_holds d1 x y (by omega) (by omega))
          have hp : x < p0 ∧ p0 + 1 < y := HPV.out
          go_wp2_with (go_at_call 113; refine HC.out.mono ?_; rintro e w3 ⟨rfl, h3, g3⟩)
          go_meet
          exact ⟨y - 1 - (p0 - x), 1, _, by congr 1; omega, rfl, Lib.hid ⟨by omega, by omega, HZ.out⟩, Lib.hid h3, Lib.hid (only_trans HG2.out g3)⟩
        · have hh' : (h0 == 2) = false := by simpa using hh
          clear hh
          go_wp2_with fail
          go_meet
          exact ⟨p0, h0, d1, rfl, rfl, Lib.hid ⟨HPV.out.1, by have := HPV.out; omega, permIn_refl d1 x y⟩, HR2, HG2⟩
      case rest =>
        obtain ⟨pv, hint, d2, rfl, rfl, HP2, HR3, HG3⟩ := hcut
        clear HR2 HG2 HPV
        have hs2 : d2.size = d.size := by rw [HP2.out.2.2.1]; exact hs1
        have HB2 := Lib.hid (HB1.out.perm (by omega) HP2.out.2.2)
        clear HB1
        obtain ⟨bb, hbb⟩ : ∃ bb, bb = (bal && (prt && (hint == 1))) := ⟨_, rfl⟩
        have HBB := Lib.hid hbb
        clear hbb
        obtain ⟨wk, hwk⟩ : ∃ wk, wk = wc := ⟨_, rfl⟩
        subst hwk
        go_upto_region 15 with (fail)
        go_cut [68] (fun s68 wx => s68 = .bool bb ∧ wx = wk)
        case first =>
          cases bal with
          | false =>
            go_wp2_with fail
            go_meet
            exact ⟨by rw [HBB.out]; rfl, rfl⟩
          | true =>
            cases prt with
            | false =>
              go_wp2_with fail
              go_meet
              exact ⟨by rw [HBB.out]; rfl, rfl⟩
            | true =>
              go_wp2_with fail
              go_meet
              exact ⟨by rw [HBB.out]; rfl, rfl⟩
        case rest =>
        obtain ⟨rfl, hw⟩ := hcut
        subst hw
        go_upto_if 68 with (fail)
        go_cut [] (fun wx => ∃ (dj : Array Int), Hid (PermIn x y d2 dj) ∧ Hid (Row P R wx g off dj) ∧ Hid (w.grownBy wx (some g)))
        case first =>
          have DONE : Hid (∀ w4, Row P R w4 g off (partialInsertionSort ltInt d2 x y).1 → True → w.grownBy w4 (some g) → (partialInsertionSort ltInt d2 x y).2 = true →
              (∃ d', PermIn a b d d' ∧ SortedIn ltInt a b d' ∧ Row P R w4 g off d') ∧ w.grownBy w4 (some g)) := Lib.hid fun w4 r4 _ g4 ht => by
            have hz := partialInsertionSort_holds swo_ltInt d2 x y (by omega) (by omega) HB2.out
            have hz2 := HQ.out _ (permIn_trans _ _ _ x y HP1.out.2 (permIn_trans _ _ _ x y HP2.out.2.2 hz.1)) (hz.2 ht)
            exact ⟨⟨_, hz2.1, hz2.2, r4⟩, g4⟩
          have PRM := Lib.hid (partialInsertionSort_holds swo_ltInt d2 x y (by omega) (by omega) HB2.out).1
          have HC := Lib.hid (partialIns_any P R g off cap x y d2 wc HR3.out (by omega) (by omega) (by omega))
          rw [hs2] at HC
          obtain ⟨pr, hpr⟩ : ∃ pr, pr = partialInsertionSort ltInt d2 x y := ⟨_, rfl⟩
          rw [← hpr] at HC DONE PRM
          clear hpr
          obtain ⟨dp, rp⟩ := pr
          have STAY : Hid (∃ (dj : Array Int), Hid (PermIn x y d2 dj) ∧ Hid (Row P R wc g off dj) ∧ Hid (w.grownBy wc (some g))) := Lib.hid ⟨d2, Lib.hid (permIn_refl d2 x y), HR3, HG3⟩
          cases bb with
          | false =>
            go_wp2_with fail
            go_meet
            exact STAY.out
          | true =>
            cases rp with
            | true =>
              go_wp2_with (go_at_call 114; refine HC.out.mono ?_; rintro e w4 ⟨rfl, h4, g4⟩)
              (try simp only [Exit.inBlock, Exit.then]); refine bodyPost_ret (results_none rfl _ _ _) rfl ?_
              exact ⟨rfl, DONE.out w4 h4 trivial (only_trans HG3.out g4) trivial⟩
            | false =>
              go_wp2_with (go_at_call 114; refine HC.out.mono ?_; rintro e w4 ⟨rfl, h4, g4⟩)
              go_meet
              exact ⟨dp, PRM, Lib.hid h4, Lib.hid (only_trans HG3.out g4)⟩
        case rest =>
          obtain ⟨d3, HP3, HR4, HG4⟩ := hcut
          clear HR3 HG3
          have hs3 : d3.size = d.size := by rw [HP3.out.1]; exact hs2
          have HB3 := Lib.hid (HB2.out.perm (by omega) HP3.out)
          clear HB2
          have hxp : x < pv := HP2.out.1
          have hpy : pv < y := HP2.out.2.1
          have HP13 := Lib.hid (permIn_trans _ _ _ x y HP1.out.2 (permIn_trans _ _ _ x y HP2.out.2.2 HP3.out))
          have HQ3 : Hid (∀ Z, PermIn x y d3 Z → SortedIn ltInt x y Z → PermIn a b d Z ∧ SortedIn ltInt a b Z) := Lib.hid fun Z h1 h2 => HQ.out Z (permIn_trans _ _ _ x y HP13.out h1) h2
          have hlm1 : lim1 < 1000 := HP1.out.1
          go_upto_region 17 with (fail)
          go_cut [87] (fun s87 wx => ∃ r : Bool, s87 = .bool r ∧ Hid (r = true → 0 < x ∧ ltInt d3[x - 1]! d3[pv]! = false) ∧ Hid (Row P R wx g off d3) ∧ Hid (w.grownBy wx (some g)))
          case first =>
            obtain ⟨G, hG⟩ : ∃ G : Nat → Int, ∀ t, G t = d3[t]! := ⟨fun t => d3[t]!, fun _ => rfl⟩
            have hcw : ∀ t, t < d.size → wc.cell? ⟨g, off + t, none⟩ = some (.int .u32 (G t)) := fun t ht => by
              rw [hG]; exact HR4.out.cell t (by omega)
            have hfw : ∀ t, t < d.size → wc.frozen? ⟨g, off + t, none⟩ = false := fun t _ => HR4.out.frozen t
            have HG : Hid (∀ t, G t = d3[t]!) := Lib.hid hG
            clear hG
            by_cases hx0 : 0 < x
            · have hx0z : (0 : Int) < (x : Int) := by omega
              go_wp2_with fail
              go_big_quiet (first | (go_at_call 115; refine Calls.quiet_of_same (less_any _ _ _)))
              go_wp2_with fail
              go_meet
              exact ⟨_, rfl, Lib.hid (fun h => ⟨hx0, by rw [HG.out, HG.out] at h; simpa using h⟩), HR4, Lib.hid (only_drewN HG4.out nq)⟩
            · have hx0z : decide ((0 : Int) < (x : Int)) = false := decide_eq_false (by omega)
              go_wp2_with fail
              go_big_quiet (first | (go_at_call 115; refine Calls.quiet_of_same (less_any _ _ _)))
              go_wp2_with fail
              go_meet
              exact ⟨false, rfl, Lib.hid (fun h => by cases h), HR4, Lib.hid (only_drewN HG4.out nq)⟩
          case rest =>
            obtain ⟨r, rfl, HT, HR5, HG5⟩ := hcut
            clear HR4 HG4
            cases r with
            | true =>
              obtain ⟨hx0, hnl⟩ := HT.out rfl
              obtain ⟨mid, d4, hpe⟩ : ∃ mid d4, partitionEqual ltInt d3 x y pv = (mid, d4) := ⟨_, _, rfl⟩
              have HC := Lib.hid (parteq_any P R g off cap x y pv d3 wc HR5.out hxp hpy (by omega) (by omega))
              rw [hpe, hs3] at HC
              obtain ⟨m1, m2, m3, m4, m5⟩ := round_eq swo_ltInt (partitionEqual_holds ltInt) hx0 (by omega) hpy (by omega) HB3.out hnl hpe
              have HM := Lib.hid (And.intro m4 m5)
              have hs4 : d4.size = d.size := by rw [m3]; exact hs3
              clear hpe hnl m3 m4 m5
              go_wp2_with (go_at_call 116; refine HC.out.mono ?_; rintro e w5 ⟨rfl, h5, g5⟩)
              go_roundw
              case rel =>
                refine ⟨mid, y, lim1, bal, prt, d4, rfl, rfl, rfl, rfl, rfl, Lib.hid ⟨by omega, by omega, by omega, hlm1, hs4⟩, Lib.hid h5, Lib.hid (only_trans HG5.out g5), Lib.hid HM.out.1, Lib.hid fun Z h1 h2 => ?_⟩
                have hz := HM.out.2 Z h1 h2
                exact HQ3.out Z hz.1 hz.2
              case measure => simp [intOf] <;> omega
            | false =>
              obtain ⟨mid, ap, d4, hpt⟩ : ∃ mid ap d4, partition ltInt d3 x y pv = (mid, ap, d4) := ⟨_, _, _, rfl⟩
              have HC := Lib.hid (part_any P R g off cap x y pv d3 wc HR5.out hxp hpy (by omega) (by omega))
              rw [hpt, hs3] at HC
              obtain ⟨m1, m2, m3, m4, m5, m6, m7⟩ := round_part swo_ltInt (partition_holds ltInt) (by omega) hpy (by omega) HB3.out hpt
              have HM4 := Lib.hid m4
              have HM5 := Lib.hid m5
              have HM6 := Lib.hid m6
              have HM7 := Lib.hid m7
              have hs4 : d4.size = d.size := by rw [m3]; exact hs3
              have hN' : y - x ≤ N := by have := HN.out; omega
              clear hpt m3 m4 m5 m6 m7
              by_cases hlr : (mid : Int) - (x : Int) < (y : Int) - (mid : Int)
              · have REC := Lib.hid fun w5 (h5 : Row P R w5 g off d4) => IH.out (N - 1) (by omega) P R g off cap x mid lim1 d4 w5 (by omega) h5 m1 (by omega) (by omega) hlm1 HM4.out
                rw [hs4] at REC
                go_wp2_with (go_at_call 117; refine HC.out.mono ?_; rintro e w5 ⟨rfl, h5, g5⟩)
                have HR6 := Lib.hid h5
                have HG6 := Lib.hid (only_trans HG5.out g5)
                clear h5 g5 HC HR5 HG5
                refine (REC.out _ HR6.out).mono ?_; rintro e w6 ⟨rfl, ⟨L, l1, l2, h6⟩, g6⟩
                have HL := Lib.hid (And.intro l1 l2)
                have hsL : L.size = d.size := by rw [l1.1]; exact hs4
                have HR7 := Lib.hid h6
                have HG7 := Lib.hid (only_trans HG6.out g6)
                clear l1 l2 h6 g6 HR6 HG6
                go_wp2
                go_roundw
                case rel =>
                  obtain ⟨k1, k2⟩ := HM6.out L HL.out.1 HL.out.2
                  refine ⟨mid + 1, y, lim1, _, ap, L, by go_num, rfl, rfl, rfl, rfl, Lib.hid ⟨by omega, by omega, by omega, hlm1, hsL⟩, HR7, HG7, Lib.hid k1, Lib.hid fun Z h1 h2 => ?_⟩
                  have hz := k2 Z h1 h2
                  exact HQ3.out Z hz.1 hz.2
                case measure => simp [intOf] <;> omega
              · have REC := Lib.hid fun w5 (h5 : Row P R w5 g off d4) => IH.out (N - 1) (by omega) P R g off cap (mid + 1) y lim1 d4 w5 (by omega) h5 (by omega) (by omega) (by omega) hlm1 HM5.out
                rw [hs4] at REC
                go_wp2_with (go_at_call 117; refine HC.out.mono ?_; rintro e w5 ⟨rfl, h5, g5⟩)
                have HR6 := Lib.hid h5
                have HG6 := Lib.hid (only_trans HG5.out g5)
                clear h5 g5 HC HR5 HG5
                refine (REC.out _ HR6.out).mono ?_; rintro e w6 ⟨rfl, ⟨L, l1, l2, h6⟩, g6⟩
                have HL := Lib.hid (And.intro l1 l2)
                have hsL : L.size = d.size := by rw [l1.1]; exact hs4
                have HR7 := Lib.hid h6
                have HG7 := Lib.hid (only_trans HG6.out g6)
                clear l1 l2 h6 g6 HR6 HG6
                go_wp2
                go_roundw
                case rel =>
                  obtain ⟨k1, k2⟩ := HM7.out L HL.out.1 HL.out.2
                  refine ⟨x, mid, lim1, _, ap, L, rfl, rfl, rfl, rfl, rfl, Lib.hid ⟨by omega, by omega, by omega, hlm1, hsL⟩, HR7, HG7, Lib.hid k1, Lib.hid fun Z h1 h2 => ?_⟩
                  have hz := k2 Z h1 h2
                  exact HQ3.out Z hz.1 hz.2
                case measure => simp [intOf] <;> omega

theorem pdq_all : ∀ N, PdqAt N := fun N => Nat.strongRecOn N fun n ih => pdq_step n fun m hm => ih m hm
end Go.Proofs.YtgdbhmlmioihpaaGreatDoor
end
