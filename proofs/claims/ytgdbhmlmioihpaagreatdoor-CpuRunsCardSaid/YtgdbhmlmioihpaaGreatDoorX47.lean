/- Some texts of one proof, one behind the other; each has its own head below. -/
import Derived.Test.YtgdbhmlmioihpaaGreatDoorX00
import Derived.Test.YtgdbhmlmioihpaaGreatDoorX44
import Derived.Test.YtgdbhmlmioihpaaGreatDoorX45
import Derived.Test.YtgdbhmlmioihpaaGreatDoorX46
import Derived.Laws.EntriesVeiled
import Derived.Deep.DeepCutAuto
/- The program's table of what each op does: a map of ops to functions, made anew at each call. -/
section
set_option linter.unusedVariables false
namespace Go.Proofs.YtgdbhmlmioihpaaGreatDoor
open Go Go.RowKit Go.Maps

/-- How a function value reads: as its function's number. -/
def fnR (v : Value) : Option (DataW Unit × List MemPlace) := match v with
  | .nilFunc => some (.nil, [])
  | .func (.func k) a b => if a.size = 0 ∧ b.size = 0 then some (.lit (.int .i64 (k : Int)), []) else none
  | _ => none
def fnV (k : Nat) : Value := .func (.func k) #[] #[]
theorem fnR_V (k : Nat) : fnR (fnV k) = some (.lit (.int .i64 (k : Int)), []) := rfl
theorem fnR_inv {v : Value} {k : Nat} {ps : List MemPlace} (h : fnR v = some (.lit (.int .i64 (k : Int)), ps)) : v = fnV k := by
  unfold fnR at h
  split at h
  · simp at h
  · split at h
    · rename_i hs
      simp only [Option.some.injEq, Prod.mk.injEq, DataW.lit.injEq, Lit.int.injEq, true_and] at h
      have e1 := Array.eq_empty_of_size_eq_zero hs.1
      have e2 := Array.eq_empty_of_size_eq_zero hs.2
      have e3 := Int.ofNat.inj h.1
      subst e1 e2 e3
      rfl
    · cases h
  · cases h

theorem keyed8 : Keyed Tryz.prog 5 := int_keyed Tryz.underlying5
theorem wf_u8 {a : Int} (h0 : 0 ≤ a) (h1 : a < 256) : (Lit.int .u8 a).wf = true := by
  have e1 : IntKind.u8.min = 0 := rfl
  have e2 : IntKind.u8.max = 255 := rfl
  simp only [Lit.wf, e1, e2, Bool.and_eq_true, decide_eq_true_eq]
  omega
theorem zeroFn (w : World) : (zeroValue 114).run Tryz.prog w = .ok .nilFunc w := by kernel_rfl

/-- Which function each op has. -/
def fns : List (Int × Nat) := [(1, 56), (2, 56), (3, 56), (4, 56), (5, 56), (6, 56), (7, 56), (8, 56), (9, 56), (10, 56), (11, 56), (12, 56), (13, 56), (14, 56),
  (17, 57), (19, 57), (22, 57), (23, 57), (24, 57), (25, 57), (26, 57), (29, 57), (30, 57),
  (32, 58), (33, 59), (34, 60), (35, 61), (36, 62), (40, 63), (41, 64), (42, 65), (43, 66), (44, 67), (45, 68), (46, 69), (50, 70)]
def putF (D : DataW Unit) (p : Int × Nat) : DataW Unit := D.put (.int .u8 p.1) (.lit (.int .i64 (p.2 : Int)))
def tblF (l : List (Int × Nat)) : DataW Unit := l.foldl putF (.map [])
theorem tblF_snoc (l : List (Int × Nat)) (p : Int × Nat) : tblF (l ++ [p]) = putF (tblF l) p := by simp [tblF]
/-- Block g is a map of these. -/
def FnsAt (w : World) (g : Nat) (l : List (Int × Nat)) : Prop := w.ownsMap Tryz.prog 5 fnR g l.length (tblF l)
def ActAt (w : World) (g : Nat) : Prop := FnsAt w g fns
theorem FnsAt.same {w w' : World} {g : Nat} {l : List (Int × Nat)} (h : FnsAt w g l) (hw : w'.heap[g]? = w.heap[g]?) : FnsAt w' g l := by
  obtain ⟨es, clock, hb, F, hs, hD⟩ := h
  exact ⟨es, clock, hw.trans hb, F, hs, hD⟩
theorem FnsAt.lt {w : World} {g : Nat} {l : List (Int × Nat)} (h : FnsAt w g l) : g < w.heap.size := World.ownsMap.lt h
theorem FnsAt.look {w : World} {g f : Nat} {l : List (Int × Nat)} (h : FnsAt w g l) (op : Int) (h0 : 0 ≤ op) (h1 : op < 256) (hf : (tblF l).atKey (.int .u8 op) .nil = .lit (.int .i64 (f : Int))) :
    (Instr.lookup 75 (.map (some g)) (.int .u8 op) false).run Tryz.prog w = .ok (fnV f) w := by
  obtain ⟨v, ps, hrun, hv⟩ := World.ownsMap.lookup h keyed8 Tryz.underlying75 (zeroFn w) (zd := .nil) (zp := []) rfl (keyOf_int_mk Tryz.underlying5 (wf_u8 h0 h1))
  rw [hrun]
  rw [hf] at hv
  rw [fnR_inv hv]
/-- An entry of a literal. -/
theorem FnsAt.put {w w0 : World} {g B : Nat} {l : List (Int × Nat)} (h : FnsAt w g l) (op : Int) (f : Nat) (hl : l.length < 100) (h0 : 0 ≤ op) (h1 : op < 256) (hb : Below B w0 w) (hB : B ≤ w.heap.size) (hg : B ≤ g) :
    ∃ w', (Instr.mapUpdate 75 (.map (some g)) (.int .u8 op) (.func (.func f) #[] #[])).run Tryz.prog w = .ok () w' ∧ FnsAt w' g (l ++ [(op, f)]) ∧ Below B w0 w' ∧ B ≤ w'.heap.size := by
  obtain ⟨w', hrun, r1, r2⟩ := World.ownsMap.store h keyed8 Tryz.underlying75 (by unfold maxLen; omega) (keyOf_int_mk Tryz.underlying5 (wf_u8 h0 h1)) (fnR_V f)
  refine ⟨w', hrun, ?_, hb.grown r2.grown hB (fun j hj => by cases hj; exact hg), Nat.le_trans hB r2.grown.size⟩
  unfold FnsAt
  rw [tblF_snoc, List.length_append]
  exact r1

set_option maxHeartbeats 4000000 in
set_option maxRecDepth 100000 in
theorem actions_any (w : World) : Calls Tryz.prog 32 #[] w fun r w' => r = .returned (.map (some w.heap.size)) ∧ ActAt w' w.heap.size ∧ Below w.heap.size w w' := by
  have h0 : FnsAt (w.alloc (.map #[] 0)) w.heap.size [] := World.ownsMap_made w _ _ _
  have b0 : Below w.heap.size w (w.alloc (.map #[] 0)) := (Below.refl _ _).alloc (Nat.le_refl _) _
  obtain ⟨g, hg⟩ : ∃ g, g = w.heap.size := ⟨_, rfl⟩
  obtain ⟨wa, hwa⟩ : ∃ wa, wa = w.alloc (.map #[] 0) := ⟨_, rfl⟩
  obtain ⟨B, hB⟩ : ∃ B, B = w.heap.size := ⟨_, rfl⟩
  have hz : B ≤ wa.heap.size := by rw [hwa, hB]; simp
  have hBg : B ≤ g := by omega
  rw [← hwa] at h0 b0
  rw [← hB] at b0 ⊢
  have HB := Lib.hid hB
  have HG := Lib.hid hg
  have HWA := Lib.hid hwa
  clear hwa hg hB
  have hmm : (Instr.makeMap 75 none).run Tryz.prog w = .ok (.map (some g)) wa := by rw [HWA.out, HG.out]; exact run_makeMap _ _
  rw [← HG.out] at h0
  obtain ⟨w1, r1, f1, d1, z1⟩ := FnsAt.put h0 1 56 (by decide) (by decide) (by decide) b0 hz hBg
  clear h0 b0 hz
  obtain ⟨w2, r2, f2, d2, z2⟩ := FnsAt.put f1 2 56 (by decide) (by decide) (by decide) d1 z1 hBg
  clear f1 d1 z1
  obtain ⟨w3, r3, f3, d3, z3⟩ := FnsAt.put f2 3 56 (by decide) (by decide) (by decide) d2 z2 hBg
  clear f2 d2 z2
  obtain ⟨w4, r4, f4, d4, z4⟩ := FnsAt.put f3 4 56 (by decide) (by decide) (by decide) d3 z3 hBg
  clear f3 d3 z3
  obtain ⟨w5, r5, f5, d5, z5⟩ := FnsAt.put f4 5 56 (by decide) (by decide) (by decide) d4 z4 hBg
  clear f4 d4 z4
  obtain ⟨w6, r6, f6, d6, z6⟩ := FnsAt.put f5 6 56 (by decide) (by decide) (by decide) d5 z5 hBg
  clear f5 d5 z5
  obtain ⟨w7, r7, f7, d7, z7⟩ := FnsAt.put f6 7 56 (by decide) (by decide) (by decide) d6 z6 hBg
  clear f6 d6 z6
  obtain ⟨w8, r8, f8, d8, z8⟩ := FnsAt.put f7 8 56 (by decide) (by decide) (by decide) d7 z7 hBg
  clear f7 d7 z7
  obtain ⟨w9, r9, f9, d9, z9⟩ := FnsAt.put f8 9 56 (by decide) (by decide) (by decide) d8 z8 hBg
  clear f8 d8 z8
  obtain ⟨w10, r10, f10, d10, z10⟩ := FnsAt.put f9 10 56 (by decide) (by decide) (by decide) d9 z9 hBg
  clear f9 d9 z9
  obtain ⟨w11, r11, f11, d11, z11⟩ := FnsAt.put f10 11 56 (by decide) (by decide) (by decide) d10 z10 hBg
  clear f10 d10 z10
  obtain ⟨w12, r12, f12, d12, z12⟩ := FnsAt.put f11 12 56 (by decide) (by decide) (by decide) d11 z11 hBg
  clear f11 d11 z11
  obtain ⟨w13, r13, f13, d13, z13⟩ := FnsAt.put f12 13 56 (by decide) (by decide) (by decide) d12 z12 hBg
  clear f12 d12 z12
  obtain ⟨w14, r14, f14, d14, z14⟩ := FnsAt.put f13 14 56 (by decide) (by decide) (by decide) d13 z13 hBg
  clear f13 d13 z13
  obtain ⟨w15, r15, f15, d15, z15⟩ := FnsAt.put f14 17 57 (by decide) (by decide) (by decide) d14 z14 hBg
  clear f14 d14 z14
  obtain ⟨w16, r16, f16, d16, z16⟩ := FnsAt.put f15 19 57 (by decide) (by decide) (by decide) d15 z15 hBg
  clear f15 d15 z15
  obtain ⟨w17, r17, f17, d17, z17⟩ := FnsAt.put f16 22 57 (by decide) (by decide) (by decide) d16 z16 hBg
  clear f16 d16 z16
  obtain ⟨w18, r18, f18, d18, z18⟩ := FnsAt.put f17 23 57 (by decide) (by decide) (by decide) d17 z17 hBg
  clear f17 d17 z17
  obtain ⟨w19, r19, f19, d19, z19⟩ := FnsAt.put f18 24 57 (by decide) (by decide) (by decide) d18 z18 hBg
  clear f18 d18 z18
  obtain ⟨w20, r20, f20, d20, z20⟩ := FnsAt.put f19 25 57 (by decide) (by decide) (by decide) d19 z19 hBg
  clear f19 d19 z19
  obtain ⟨w21, r21, f21, d21, z21⟩ := FnsAt.put f20 26 57 (by decide) (by decide) (by decide) d20 z20 hBg
  clear f20 d20 z20
  obtain ⟨w22, r22, f22, d22, z22⟩ := FnsAt.put f21 29 57 (by decide) (by decide) (by decide) d21 z21 hBg
  clear f21 d21 z21
  obtain ⟨w23, r23, f23, d23, z23⟩ := FnsAt.put f22 30 57 (by decide) (by decide) (by decide) d22 z22 hBg
  clear f22 d22 z22
  obtain ⟨w24, r24, f24, d24, z24⟩ := FnsAt.put f23 32 58 (by decide) (by decide) (by decide) d23 z23 hBg
  clear f23 d23 z23
  obtain ⟨w25, r25, f25, d25, z25⟩ := FnsAt.put f24 33 59 (by decide) (by decide) (by decide) d24 z24 hBg
  clear f24 d24 z24
  obtain ⟨w26, r26, f26, d26, z26⟩ := FnsAt.put f25 34 60 (by decide) (by decide) (by decide) d25 z25 hBg
  clear f25 d25 z25
  obtain ⟨w27, r27, f27, d27, z27⟩ := FnsAt.put f26 35 61 (by decide) (by decide) (by decide) d26 z26 hBg
  clear f26 d26 z26
  obtain ⟨w28, r28, f28, d28, z28⟩ := FnsAt.put f27 36 62 (by decide) (by decide) (by decide) d27 z27 hBg
  clear f27 d27 z27
  obtain ⟨w29, r29, f29, d29, z29⟩ := FnsAt.put f28 40 63 (by decide) (by decide) (by decide) d28 z28 hBg
  clear f28 d28 z28
  obtain ⟨w30, r30, f30, d30, z30⟩ := FnsAt.put f29 41 64 (by decide) (by decide) (by decide) d29 z29 hBg
  clear f29 d29 z29
  obtain ⟨w31, r31, f31, d31, z31⟩ := FnsAt.put f30 42 65 (by decide) (by decide) (by decide) d30 z30 hBg
  clear f30 d30 z30
  obtain ⟨w32, r32, f32, d32, z32⟩ := FnsAt.put f31 43 66 (by decide) (by decide) (by decide) d31 z31 hBg
  clear f31 d31 z31
  obtain ⟨w33, r33, f33, d33, z33⟩ := FnsAt.put f32 44 67 (by decide) (by decide) (by decide) d32 z32 hBg
  clear f32 d32 z32
  obtain ⟨w34, r34, f34, d34, z34⟩ := FnsAt.put f33 45 68 (by decide) (by decide) (by decide) d33 z33 hBg
  clear f33 d33 z33
  obtain ⟨w35, r35, f35, d35, z35⟩ := FnsAt.put f34 46 69 (by decide) (by decide) (by decide) d34 z34 hBg
  clear f34 d34 z34
  obtain ⟨w36, r36, f36, d36, z36⟩ := FnsAt.put f35 50 70 (by decide) (by decide) (by decide) d35 z35 hBg
  clear f35 d35 z35
  have HF : Hid (ActAt w36 g) := Lib.hid f36
  have HD := Lib.hid d36
  clear f36 d36 z36 hBg
  go_enter Tryz.func32, Tryz.ntmps32
  go_wp2_with fail
  go_ret
  have e : g = B := HG.out.trans HB.out.symm
  rw [← e] at HD ⊢
  exact ⟨rfl, HF.out, HD.out⟩
end Go.Proofs.YtgdbhmlmioihpaaGreatDoor
end

/- Whatever instruction: the function that the table has for its op does what the document's step does. -/
section
set_option linter.unusedVariables false
namespace Go.Proofs.YtgdbhmlmioihpaaGreatDoor
open Go Go.RowKit Go.Maps

def fnOf (op : Int) : Nat :=
  if op ≤ 14 then 56 else if op ≤ 30 then 57 else if op = 32 then 58 else if op = 33 then 59 else if op = 34 then 60 else if op = 35 then 61 else if op = 36 then 62
  else if op = 40 then 63 else if op = 41 then 64 else if op = 42 then 65 else if op = 43 then 66 else if op = 44 then 67 else if op = 45 then 68 else if op = 46 then 69 else 70
def litF (D : DataW Unit) : Option Int := match D with | .lit (.int .i64 z) => some z | _ => none
theorem litF_inv {D : DataW Unit} {z : Int} (h : litF D = some z) : D = .lit (.int .i64 z) := by
  unfold litF at h
  split at h
  · simp only [Option.some.injEq] at h; rw [h]
  · cases h
theorem fns_fin : ∀ k : Fin 51, I.Ix.tab.getD k.val 0 ≠ 0 → litF ((tblF fns).atKey (.int .u8 (k.val : Int)) .nil) = some (fnOf (k.val : Int) : Int) := by decide +kernel
theorem act_look {w : World} {g : Nat} (h : ActAt w g) {x : Xn} (hx : x.Ok) : (Instr.lookup 75 (.map (some g)) (.int .u8 x.op) false).run Tryz.prog w = .ok (fnV (fnOf x.op)) w := by
  have ho := hx.ops
  refine FnsAt.look h x.op (by omega) hx.o1 (litF_inv ?_)
  obtain ⟨h0, _⟩ := I.Ix.ok_parts hx.o
  unfold I.Ix.isOp I.Ix.bitsI at h0
  simp only [decide_eq_true_eq] at h0
  have hk : x.op.toNat < 51 := by omega
  have := fns_fin ⟨x.op.toNat, hk⟩ (by intro hc; apply h0; simp only at hc; rw [hc]; rfl)
  simp only at this
  rwa [show ((x.op.toNat : Nat) : Int) = x.op by omega] at this

theorem ite_q (Q : Nat → Prop) {P : Prop} [Decidable P] {a b : Nat} (ha : Q a) (hb : Q b) : Q (if P then a else b) := by
  by_cases h : P
  · rw [if_pos h]; exact ha
  · rw [if_neg h]; exact hb
theorem fnOf_all (Q : Nat → Prop) (h0 : Q 56) (h1 : Q 57) (h2 : Q 58) (h3 : Q 59) (h4 : Q 60) (h5 : Q 61) (h6 : Q 62) (h7 : Q 63) (h8 : Q 64) (h9 : Q 65) (h10 : Q 66) (h11 : Q 67) (h12 : Q 68) (h13 : Q 69) (h14 : Q 70) (op : Int) : Q (fnOf op) := (ite_q Q h0 (ite_q Q h1 (ite_q Q h2 (ite_q Q h3 (ite_q Q h4 (ite_q Q h5 (ite_q Q h6 (ite_q Q h7 (ite_q Q h8 (ite_q Q h9 (ite_q Q h10 (ite_q Q h11 (ite_q Q h12 (ite_q Q h13 h14))))))))))))))
theorem fn_enter (op : Int) (args : Array Value) (w : World) : (callFunc (fnOf op) args).run Tryz.prog w = .ok (.enter (fnOf op) args) w :=
  fnOf_all (fun f => (callFunc f args).run Tryz.prog w = .ok (.enter f args) w) (Tryz.call56 args w) (Tryz.call57 args w) (Tryz.call58 args w) (Tryz.call59 args w) (Tryz.call60 args w) (Tryz.call61 args w) (Tryz.call62 args w) (Tryz.call63 args w) (Tryz.call64 args w) (Tryz.call65 args w) (Tryz.call66 args w) (Tryz.call67 args w) (Tryz.call68 args w) (Tryz.call69 args w) (Tryz.call70 args w) op
theorem goes43 (X Y : Int) : goes 43 X Y = (X == Y) := by unfold goes; rw [Bool.eq_iff_iff]; simp
theorem goes44 (X Y : Int) : goes 44 X Y = (X != Y) := by unfold goes; rw [Bool.eq_iff_iff]; simp
theorem goes45 (X Y : Int) : goes 45 X Y = decide (X < Y) := by unfold goes; rw [Bool.eq_iff_iff]; simp
theorem goes46 (X Y : Int) : goes 46 X Y = decide (X ≥ Y) := by unfold goes; rw [Bool.eq_iff_iff]; simp
section
variable {q b e n : Nat} {c : Cp} {x : Xn} {A : As}
/-- What is left behind an instruction. -/
structure Dz (w : World) (q b e n : Nat) (x : Xn) (o : Out) (r : Ending) (w' : World) : Prop where
  r : r = .returned (stopV o)
  c : ∃ c', Do q b e n c' x o.A w' ∧ (o.k ≠ 2 → c' = o.c)
  dt : DT w w' b e q
theorem putR_not (A : As) (need y : Nat) (s : ByteArray) (h : putE A need y s ≠ 0) : putR A need y s = A := by
  unfold putR
  rw [if_neg]
  intro h2
  apply h
  unfold putE
  rw [if_pos h2]
theorem act_any (w : World) (hc : c.Ok) (hx : x.Ok) (s : Do q b e n (setPc c (nx c)) x A w) : Calls Tryz.prog (fnOf x.op) #[.pointer (some ⟨q, 0, none⟩)] w (Dz w q b e n x (execO x c A)) := by
  have hp : (setPc c (nx c)).Ok := setPc_ok hc (nx_lo c) (nx_hi c)
  obtain ⟨hd, ha, hb⟩ := hx.regs
  have plain : ∀ (f : Nat) (c2 : Cp), fnOf x.op = f → execO x c A = ran c2 A → (Calls Tryz.prog f #[.pointer (some ⟨q, 0, none⟩)] w fun r w' => r = .returned (.agg #[.int .u8 0, .int .u32 0, .int .i64 0]) ∧ Do q b e n c2 x A w' ∧ DT w w' b e q) →
      Calls Tryz.prog (fnOf x.op) #[.pointer (some ⟨q, 0, none⟩)] w (Dz w q b e n x (execO x c A)) := by
    intro f c2 h1 h2 h3
    rw [h1, h2]
    exact h3.mono fun r w' ⟨q1, q2, q3⟩ => ⟨q1, ⟨c2, q2, fun _ => rfl⟩, q3⟩
  have loads : ∀ (f N : Nat), fnOf x.op = f → memN x.op = N → (execO x c A = if getE A 1 (adr x c) (memN x.op) = 0 then ran (setPc (setR c x.d (I.getV (getS A 1 (adr x c) (memN x.op)))) (nx c)) A else flt 50 c A) →
      (Calls Tryz.prog f #[.pointer (some ⟨q, 0, none⟩)] w fun r w' => r = .returned (.agg #[.int .u8 (ldK (getE A 1 (adr x (setPc c (nx c))) (N : Int))), .int .u32 0, .int .i64 (getE A 1 (adr x (setPc c (nx c))) (N : Int))]) ∧
        Do q b e n (ldC (getE A 1 (adr x (setPc c (nx c))) (N : Int)) (setPc c (nx c)) x.d (I.getV (getS A 1 (adr x (setPc c (nx c))) (N : Int)))) x A w' ∧ DT w w' b e q) →
      Calls Tryz.prog (fnOf x.op) #[.pointer (some ⟨q, 0, none⟩)] w (Dz w q b e n x (execO x c A)) := by
    intro f N h1 hN h2 h3
    rw [h1, h2, hN]
    change Calls Tryz.prog f _ w (fun r w' => r = .returned (.agg #[.int .u8 (ldK (getE A 1 (adr x c) (N : Int))), .int .u32 0, .int .i64 (getE A 1 (adr x c) (N : Int))]) ∧ Do q b e n (ldC (getE A 1 (adr x c) (N : Int)) (setPc c (nx c)) x.d (I.getV (getS A 1 (adr x c) (N : Int)))) x A w' ∧ DT w w' b e q) at h3
    rcases getE_two A 1 (adr x c) N (by rw [← hN]; unfold memN; split <;> decide) with hE | hE
    · rw [hE] at h3 ⊢
      rw [if_pos rfl]
      exact h3.mono fun r w' ⟨q1, q2, q3⟩ => ⟨q1, ⟨_, q2, fun _ => rfl⟩, q3⟩
    · rw [hE] at h3 ⊢
      rw [if_neg (by decide)]
      exact h3.mono fun r w' ⟨q1, q2, q3⟩ => ⟨q1, ⟨_, q2, fun h => absurd rfl h⟩, q3⟩
  have stores : ∀ (f : Nat), fnOf x.op = f → (execO x c A = if putE A 2 (adr x c) (memT x c) = 0 then ran (setPc c (nx c)) (putR A 2 (adr x c) (memT x c)) else flt 50 c A) →
      (Calls Tryz.prog f #[.pointer (some ⟨q, 0, none⟩)] w fun r w' => r = .returned (.agg #[.int .u8 (ldK (putE A 2 (adr x (setPc c (nx c))) (memT x c))), .int .u32 0, .int .i64 (putE A 2 (adr x (setPc c (nx c))) (memT x c))]) ∧
        Do q b e n (setPc c (nx c)) x (putR A 2 (adr x (setPc c (nx c))) (memT x c)) w' ∧ DT w w' b e q) →
      Calls Tryz.prog (fnOf x.op) #[.pointer (some ⟨q, 0, none⟩)] w (Dz w q b e n x (execO x c A)) := by
    intro f h1 h2 h3
    rw [h1, h2]
    change Calls Tryz.prog f _ w (fun r w' => r = .returned (.agg #[.int .u8 (ldK (putE A 2 (adr x c) (memT x c))), .int .u32 0, .int .i64 (putE A 2 (adr x c) (memT x c))]) ∧ Do q b e n (setPc c (nx c)) x (putR A 2 (adr x c) (memT x c)) w' ∧ DT w w' b e q) at h3
    rcases putE_two A 2 (adr x c) (memT x c) with hE | hE
    · rw [hE] at h3 ⊢
      rw [if_pos rfl]
      exact h3.mono fun r w' ⟨q1, q2, q3⟩ => ⟨q1, ⟨_, q2, fun _ => rfl⟩, q3⟩
    · rw [putR_not A 2 (adr x c) (memT x c) (by rw [hE]; decide)] at h3
      rw [hE] at h3 ⊢
      rw [if_neg (by decide)]
      exact h3.mono fun r w' ⟨q1, q2, q3⟩ => ⟨q1, ⟨_, q2, fun h => absurd rfl h⟩, q3⟩
  have jumps : ∀ (f : Nat) (bv : Bool), fnOf x.op = f → x.op ≠ 41 → (execO x c A = if goes x.op (c.r x.a) (c.r x.b) = true then ran (setPc (if x.op = 41 then setR c x.d (nx c) else c) x.im) A else ran (setPc c (nx c)) A) → goes x.op (c.r x.a) (c.r x.b) = bv →
      (Calls Tryz.prog f #[.pointer (some ⟨q, 0, none⟩)] w fun r w' => r = .returned (.agg #[.int .u8 0, .int .u32 0, .int .i64 0]) ∧ Do q b e n (jmp bv (setPc c (nx c)) x) x A w' ∧ DT w w' b e q) →
      Calls Tryz.prog (fnOf x.op) #[.pointer (some ⟨q, 0, none⟩)] w (Dz w q b e n x (execO x c A)) := by
    intro f bv h1 h41 h2 hg h3
    rw [h1, h2, hg, if_neg h41]
    cases bv with
    | true => rw [if_pos rfl]; exact h3.mono fun r w' ⟨q1, q2, q3⟩ => ⟨q1, ⟨_, q2, fun _ => rfl⟩, q3⟩
    | false => rw [if_neg (by decide)]; exact h3.mono fun r w' ⟨q1, q2, q3⟩ => ⟨q1, ⟨_, q2, fun _ => rfl⟩, q3⟩
  rcases hx.ops with h | h | h | h | h | h | h | h | h | h | h | h | h | h | h
  · exact plain _ _ (by unfold fnOf; rw [if_pos h.2]) (by unfold execO; rw [if_pos h.2]; all_goals rfl) (operate_any w s hp hx h)
  · exact plain _ _ (by unfold fnOf; rw [if_neg (by omega), if_pos h.2]) (by unfold execO; rw [if_neg (by omega), if_pos h.2]; all_goals rfl) (operateOnNumber_any w s hp hx h)
  · exact plain _ _ (by rw [h]; rfl) (by unfold execO; rw [if_neg (by omega), if_neg (by omega), if_pos h]; all_goals rfl) (takeNumber_any w s hd)
  · exact loads _ 1 (by rw [h]; rfl) (by rw [h]; rfl) (by unfold execO; rw [if_neg (by omega), if_neg (by omega), if_neg (by omega), if_pos (by omega)]) (loadByte_any w s hx)
  · exact loads _ 4 (by rw [h]; rfl) (by rw [h]; rfl) (by unfold execO; rw [if_neg (by omega), if_neg (by omega), if_neg (by omega), if_pos (by omega)]) (loadWord_any w s hx)
  · exact stores _ (by rw [h]; rfl) (by unfold execO; rw [if_neg (by omega), if_neg (by omega), if_neg (by omega), if_neg (by omega), if_pos (by omega)]) (storeByte_any w s hp hx (memT x c) (by unfold memT; rw [h]; rfl))
  · exact stores _ (by rw [h]; rfl) (by unfold execO; rw [if_neg (by omega), if_neg (by omega), if_neg (by omega), if_neg (by omega), if_pos (by omega)]) (storeWord_any w s hp hx (memT x c) (by unfold memT; rw [h]; rfl))
  · exact plain _ _ (by rw [h]; rfl) (by unfold execO; rw [if_neg (by omega), if_neg (by omega), if_neg (by omega), if_neg (by omega), if_neg (by omega), if_neg (by omega), if_neg (by omega), if_pos (by unfold goes; simp [h]), if_neg (by omega)]; all_goals rfl) (jump_any w s)
  · exact plain _ (setPc (setR c x.d (nx c)) x.im) (by rw [h]; rfl) (by unfold execO; rw [if_neg (by omega), if_neg (by omega), if_neg (by omega), if_neg (by omega), if_neg (by omega), if_neg (by omega), if_neg (by omega), if_pos (by unfold goes; simp [h]), if_pos h]) (jumpAndLink_any w s hd)
  · exact plain _ _ (by rw [h]; rfl) (by unfold execO; rw [if_neg (by omega), if_neg (by omega), if_neg (by omega), if_neg (by omega), if_neg (by omega), if_pos h]; all_goals rfl) (jumpToRegister_any w s ha)
  · exact jumps _ (c.r x.a == c.r x.b) (by rw [h]; rfl) (by omega) (by unfold execO; rw [if_neg (by omega), if_neg (by omega), if_neg (by omega), if_neg (by omega), if_neg (by omega), if_neg (by omega), if_neg (by omega)]) (by rw [h, goes43]) (jumpIfEqual_any w s ha hb)
  · exact jumps _ (c.r x.a != c.r x.b) (by rw [h]; rfl) (by omega) (by unfold execO; rw [if_neg (by omega), if_neg (by omega), if_neg (by omega), if_neg (by omega), if_neg (by omega), if_neg (by omega), if_neg (by omega)]) (by rw [h, goes44]) (jumpIfOther_any w s ha hb)
  · exact jumps _ (decide (c.r x.a < c.r x.b)) (by rw [h]; rfl) (by omega) (by unfold execO; rw [if_neg (by omega), if_neg (by omega), if_neg (by omega), if_neg (by omega), if_neg (by omega), if_neg (by omega), if_neg (by omega)]) (by rw [h, goes45]) (jumpIfLess_any w s ha hb)
  · exact jumps _ (decide (c.r x.a ≥ c.r x.b)) (by rw [h]; rfl) (by omega) (by unfold execO; rw [if_neg (by omega), if_neg (by omega), if_neg (by omega), if_neg (by omega), if_neg (by omega), if_neg (by omega), if_neg (by omega)]) (by rw [h, goes46]) (jumpIfNotLess_any w s ha hb)
  · have e1 : execO x c A = ⟨1, x.im, 0, setPc c (nx c), A⟩ := by
      unfold execO; rw [if_neg (by omega), if_neg (by omega), if_neg (by omega), if_neg (by omega), if_neg (by omega), if_neg (by omega), if_pos h]
    rw [show fnOf x.op = 70 by rw [h]; rfl, e1]
    exact (system_any w s).mono fun r w' ⟨q1, q2, q3⟩ => ⟨q1, ⟨_, q2, fun _ => rfl⟩, q3⟩
end
end Go.Proofs.YtgdbhmlmioihpaaGreatDoor
end
