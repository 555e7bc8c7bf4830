/- The program's table of what each op does: a map of ops to functions, made anew at each call. -/
import Derived.Test.YtgdbhmlmioihpaaDoorX00
import Derived.Laws.EntriesVeiled
import Derived.Deep.DeepCutAuto
set_option linter.unusedVariables false
namespace Go.Proofs.YtgdbhmlmioihpaaDoor
open Go Go.RowKit Go.Maps

/-- How a function value reads: as its function's number. -/
def fnR (v : Value) : Option (DataW Unit × List MemPlace) := match v with
  | .nilFunc => some (.nil, [])
  | .func (.func k) a b => if a.size = 0 ∧ b.size = 0 then some (.lit (.int .i64 (k : Int)), []) else none
  | _ => none
def fnV (k : Nat) : Value := .func (.func k) #[] #[]
theorem fnR_V (k : Nat) : fnR (fnV k) = some (.lit (.int .i64 (k : Int)), []) := rfl
theorem fnR_inv {v : Value} {k : Nat} {ps : List MemPlace} (h : fnR v = some (.lit (.int .i64 (k : Int)), ps)) : v = fnV k := by
  unfold fnR at h
  split at h
  · simp at h
  · split at h
    · rename_i hs
      simp only [Option.some.injEq, Prod.mk.injEq, DataW.lit.injEq, Lit.int.injEq, true_and] at h
      have e1 := Array.eq_empty_of_size_eq_zero hs.1
      have e2 := Array.eq_empty_of_size_eq_zero hs.2
      have e3 := Int.ofNat.inj h.1
      subst e1 e2 e3
      rfl
    · cases h
  · cases h

theorem keyed8 : Keyed Tryd.prog 5 := int_keyed Tryd.underlying5
theorem wf_u8 {a : Int} (h0 : 0 ≤ a) (h1 : a < 256) : (Lit.int .u8 a).wf = true := by
  have e1 : IntKind.u8.min = 0 := rfl
  have e2 : IntKind.u8.max = 255 := rfl
  simp only [Lit.wf, e1, e2, Bool.and_eq_true, decide_eq_true_eq]
  omega
theorem zeroFn (w : World) : (zeroValue 72).run Tryd.prog w = .ok .nilFunc w := by kernel_rfl

/-- Which function each op has. -/
def fns : List (Int × Nat) := [(1, 22), (2, 22), (3, 22), (4, 22), (5, 22), (6, 22), (7, 22), (8, 22), (9, 22), (10, 22), (11, 22), (12, 22), (13, 22), (14, 22),
  (17, 23), (19, 23), (22, 23), (23, 23), (24, 23), (25, 23), (26, 23), (29, 23), (30, 23),
  (32, 24), (33, 25), (34, 26), (35, 27), (36, 28), (40, 29), (41, 30), (42, 31), (43, 32), (44, 33), (45, 34), (46, 35), (50, 36)]
def putF (D : DataW Unit) (p : Int × Nat) : DataW Unit := D.put (.int .u8 p.1) (.lit (.int .i64 (p.2 : Int)))
def tblF (l : List (Int × Nat)) : DataW Unit := l.foldl putF (.map [])
theorem tblF_snoc (l : List (Int × Nat)) (p : Int × Nat) : tblF (l ++ [p]) = putF (tblF l) p := by simp [tblF]
/-- Block g is a map of these. -/
def FnsAt (w : World) (g : Nat) (l : List (Int × Nat)) : Prop := w.ownsMap Tryd.prog 5 fnR g l.length (tblF l)
def ActAt (w : World) (g : Nat) : Prop := FnsAt w g fns
theorem FnsAt.same {w w' : World} {g : Nat} {l : List (Int × Nat)} (h : FnsAt w g l) (hw : w'.heap[g]? = w.heap[g]?) : FnsAt w' g l := by
  obtain ⟨es, clock, hb, F, hs, hD⟩ := h
  exact ⟨es, clock, hw.trans hb, F, hs, hD⟩
theorem FnsAt.lt {w : World} {g : Nat} {l : List (Int × Nat)} (h : FnsAt w g l) : g < w.heap.size := World.ownsMap.lt h
theorem FnsAt.look {w : World} {g f : Nat} {l : List (Int × Nat)} (h : FnsAt w g l) (op : Int) (h0 : 0 ≤ op) (h1 : op < 256) (hf : (tblF l).atKey (.int .u8 op) .nil = .lit (.int .i64 (f : Int))) :
    (Instr.lookup 49 (.map (some g)) (.int .u8 op) false).run Tryd.prog w = .ok (fnV f) w := by
  obtain ⟨v, ps, hrun, hv⟩ := World.ownsMap.lookup h keyed8 Tryd.underlying49 (zeroFn w) (zd := .nil) (zp := []) rfl (keyOf_int_mk Tryd.underlying5 (wf_u8 h0 h1))
  rw [hrun]
  rw [hf] at hv
  rw [fnR_inv hv]
/-- An entry of a literal. -/
theorem FnsAt.put {w w0 : World} {g B : Nat} {l : List (Int × Nat)} (h : FnsAt w g l) (op : Int) (f : Nat) (hl : l.length < 100) (h0 : 0 ≤ op) (h1 : op < 256) (hb : Below B w0 w) (hB : B ≤ w.heap.size) (hg : B ≤ g) :
    ∃ w', (Instr.mapUpdate 49 (.map (some g)) (.int .u8 op) (.func (.func f) #[] #[])).run Tryd.prog w = .ok () w' ∧ FnsAt w' g (l ++ [(op, f)]) ∧ Below B w0 w' ∧ B ≤ w'.heap.size := by
  obtain ⟨w', hrun, r1, r2⟩ := World.ownsMap.store h keyed8 Tryd.underlying49 (by unfold maxLen; omega) (keyOf_int_mk Tryd.underlying5 (wf_u8 h0 h1)) (fnR_V f)
  refine ⟨w', hrun, ?_, hb.grown r2.grown hB (fun j hj => by cases hj; exact hg), Nat.le_trans hB r2.grown.size⟩
  unfold FnsAt
  rw [tblF_snoc, List.length_append]
  exact r1

set_option maxHeartbeats 4000000 in
set_option maxRecDepth 100000 in
theorem actions_any (w : World) : Calls Tryd.prog 16 #[] w fun r w' => r = .returned (.map (some w.heap.size)) ∧ ActAt w' w.heap.size ∧ Below w.heap.size w w' := by
  have h0 : FnsAt (w.alloc (.map #[] 0)) w.heap.size [] := World.ownsMap_made w _ _ _
  have b0 : Below w.heap.size w (w.alloc (.map #[] 0)) := (Below.refl _ _).alloc (Nat.le_refl _) _
  obtain ⟨g, hg⟩ : ∃ g, g = w.heap.size := ⟨_, rfl⟩
  obtain ⟨wa, hwa⟩ : ∃ wa, wa = w.alloc (.map #[] 0) := ⟨_, rfl⟩
  obtain ⟨B, hB⟩ : ∃ B, B = w.heap.size := ⟨_, rfl⟩
  have hz : B ≤ wa.heap.size := by rw [hwa, hB]; simp
  have hBg : B ≤ g := by omega
  rw [← hwa] at h0 b0
  rw [← hB] at b0 ⊢
  have HB := Lib.hid hB
  have HG := Lib.hid hg
  have HWA := Lib.hid hwa
  clear hwa hg hB
  have hmm : (Instr.makeMap 49 none).run Tryd.prog w = .ok (.map (some g)) wa := by rw [HWA.out, HG.out]; exact run_makeMap _ _
  rw [← HG.out] at h0
  obtain ⟨w1, r1, f1, d1, z1⟩ := FnsAt.put h0 1 22 (by decide) (by decide) (by decide) b0 hz hBg
  clear h0 b0 hz
  obtain ⟨w2, r2, f2, d2, z2⟩ := FnsAt.put f1 2 22 (by decide) (by decide) (by decide) d1 z1 hBg
  clear f1 d1 z1
  obtain ⟨w3, r3, f3, d3, z3⟩ := FnsAt.put f2 3 22 (by decide) (by decide) (by decide) d2 z2 hBg
  clear f2 d2 z2
  obtain ⟨w4, r4, f4, d4, z4⟩ := FnsAt.put f3 4 22 (by decide) (by decide) (by decide) d3 z3 hBg
  clear f3 d3 z3
  obtain ⟨w5, r5, f5, d5, z5⟩ := FnsAt.put f4 5 22 (by decide) (by decide) (by decide) d4 z4 hBg
  clear f4 d4 z4
  obtain ⟨w6, r6, f6, d6, z6⟩ := FnsAt.put f5 6 22 (by decide) (by decide) (by decide) d5 z5 hBg
  clear f5 d5 z5
  obtain ⟨w7, r7, f7, d7, z7⟩ := FnsAt.put f6 7 22 (by decide) (by decide) (by decide) d6 z6 hBg
  clear f6 d6 z6
  obtain ⟨w8, r8, f8, d8, z8⟩ := FnsAt.put f7 8 22 (by decide) (by decide) (by decide) d7 z7 hBg
  clear f7 d7 z7
  obtain ⟨w9, r9, f9, d9, z9⟩ := FnsAt.put f8 9 22 (by decide) (by decide) (by decide) d8 z8 hBg
  clear f8 d8 z8
  obtain ⟨w10, r10, f10, d10, z10⟩ := FnsAt.put f9 10 22 (by decide) (by decide) (by decide) d9 z9 hBg
  clear f9 d9 z9
  obtain ⟨w11, r11, f11, d11, z11⟩ := FnsAt.put f10 11 22 (by decide) (by decide) (by decide) d10 z10 hBg
  clear f10 d10 z10
  obtain ⟨w12, r12, f12, d12, z12⟩ := FnsAt.put f11 12 22 (by decide) (by decide) (by decide) d11 z11 hBg
  clear f11 d11 z11
  obtain ⟨w13, r13, f13, d13, z13⟩ := FnsAt.put f12 13 22 (by decide) (by decide) (by decide) d12 z12 hBg
  clear f12 d12 z12
  obtain ⟨w14, r14, f14, d14, z14⟩ := FnsAt.put f13 14 22 (by decide) (by decide) (by decide) d13 z13 hBg
  clear f13 d13 z13
  obtain ⟨w15, r15, f15, d15, z15⟩ := FnsAt.put f14 17 23 (by decide) (by decide) (by decide) d14 z14 hBg
  clear f14 d14 z14
  obtain ⟨w16, r16, f16, d16, z16⟩ := FnsAt.put f15 19 23 (by decide) (by decide) (by decide) d15 z15 hBg
  clear f15 d15 z15
  obtain ⟨w17, r17, f17, d17, z17⟩ := FnsAt.put f16 22 23 (by decide) (by decide) (by decide) d16 z16 hBg
  clear f16 d16 z16
  obtain ⟨w18, r18, f18, d18, z18⟩ := FnsAt.put f17 23 23 (by decide) (by decide) (by decide) d17 z17 hBg
  clear f17 d17 z17
  obtain ⟨w19, r19, f19, d19, z19⟩ := FnsAt.put f18 24 23 (by decide) (by decide) (by decide) d18 z18 hBg
  clear f18 d18 z18
  obtain ⟨w20, r20, f20, d20, z20⟩ := FnsAt.put f19 25 23 (by decide) (by decide) (by decide) d19 z19 hBg
  clear f19 d19 z19
  obtain ⟨w21, r21, f21, d21, z21⟩ := FnsAt.put f20 26 23 (by decide) (by decide) (by decide) d20 z20 hBg
  clear f20 d20 z20
  obtain ⟨w22, r22, f22, d22, z22⟩ := FnsAt.put f21 29 23 (by decide) (by decide) (by decide) d21 z21 hBg
  clear f21 d21 z21
  obtain ⟨w23, r23, f23, d23, z23⟩ := FnsAt.put f22 30 23 (by decide) (by decide) (by decide) d22 z22 hBg
  clear f22 d22 z22
  obtain ⟨w24, r24, f24, d24, z24⟩ := FnsAt.put f23 32 24 (by decide) (by decide) (by decide) d23 z23 hBg
  clear f23 d23 z23
  obtain ⟨w25, r25, f25, d25, z25⟩ := FnsAt.put f24 33 25 (by decide) (by decide) (by decide) d24 z24 hBg
  clear f24 d24 z24
  obtain ⟨w26, r26, f26, d26, z26⟩ := FnsAt.put f25 34 26 (by decide) (by decide) (by decide) d25 z25 hBg
  clear f25 d25 z25
  obtain ⟨w27, r27, f27, d27, z27⟩ := FnsAt.put f26 35 27 (by decide) (by decide) (by decide) d26 z26 hBg
  clear f26 d26 z26
  obtain ⟨w28, r28, f28, d28, z28⟩ := FnsAt.put f27 36 28 (by decide) (by decide) (by decide) d27 z27 hBg
  clear f27 d27 z27
  obtain ⟨w29, r29, f29, d29, z29⟩ := FnsAt.put f28 40 29 (by decide) (by decide) (by decide) d28 z28 hBg
  clear f28 d28 z28
  obtain ⟨w30, r30, f30, d30, z30⟩ := FnsAt.put f29 41 30 (by decide) (by decide) (by decide) d29 z29 hBg
  clear f29 d29 z29
  obtain ⟨w31, r31, f31, d31, z31⟩ := FnsAt.put f30 42 31 (by decide) (by decide) (by decide) d30 z30 hBg
  clear f30 d30 z30
  obtain ⟨w32, r32, f32, d32, z32⟩ := FnsAt.put f31 43 32 (by decide) (by decide) (by decide) d31 z31 hBg
  clear f31 d31 z31
  obtain ⟨w33, r33, f33, d33, z33⟩ := FnsAt.put f32 44 33 (by decide) (by decide) (by decide) d32 z32 hBg
  clear f32 d32 z32
  obtain ⟨w34, r34, f34, d34, z34⟩ := FnsAt.put f33 45 34 (by decide) (by decide) (by decide) d33 z33 hBg
  clear f33 d33 z33
  obtain ⟨w35, r35, f35, d35, z35⟩ := FnsAt.put f34 46 35 (by decide) (by decide) (by decide) d34 z34 hBg
  clear f34 d34 z34
  obtain ⟨w36, r36, f36, d36, z36⟩ := FnsAt.put f35 50 36 (by decide) (by decide) (by decide) d35 z35 hBg
  clear f35 d35 z35
  have HF : Hid (ActAt w36 g) := Lib.hid f36
  have HD := Lib.hid d36
  clear f36 d36 z36 hBg
  go_enter Tryd.func16, Tryd.ntmps16
  go_wp2_with fail
  go_ret
  have e : g = B := HG.out.trans HB.out.symm
  rw [← e] at HD ⊢
  exact ⟨rfl, HF.out, HD.out⟩
end Go.Proofs.YtgdbhmlmioihpaaDoor
