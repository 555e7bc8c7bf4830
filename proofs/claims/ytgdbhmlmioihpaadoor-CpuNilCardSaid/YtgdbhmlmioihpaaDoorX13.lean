/- The machine as plain functions: a step of a cpu in a space, and many. -/
import Derived.Test.YtgdbhmlmioihpaaDoorX05
import Derived.Test.YtgdbhmlmioihpaaDoorX11
import Derived.Test.YtgdbhmlmioihpaaDoorX12
set_option linter.unusedVariables false
namespace Go.Proofs.YtgdbhmlmioihpaaDoor
open Go Go.RowKit

/-- A cpu: its registers, and the pc. -/
structure Cp where
  r : Nat → Int
  pc : Int
structure Cp.Ok (c : Cp) : Prop where
  lo : ∀ j, 0 ≤ c.r j
  hi : ∀ j, c.r j < 4294967296
  zero : c.r 0 = 0
  plo : 0 ≤ c.pc
  phi : c.pc < 4294967296
def setR (c : Cp) (d : Nat) (v : Int) : Cp := ⟨fun j => if d ≠ 0 ∧ j = d then v else c.r j, c.pc⟩
def setPc (c : Cp) (p : Int) : Cp := ⟨c.r, p⟩
/-- An instruction. -/
structure Xn where
  op : Int
  d : Nat
  a : Nat
  b : Nat
  im : Int
structure Xn.Ok (x : Xn) : Prop where
  o : I.Ix.insnOk x.op x.d x.a x.b x.im = true
  o1 : x.op < 256
  i0 : 0 ≤ x.im
  i1 : x.im < 4294967296
def inOf (l : List UInt8) : Xn := ⟨I.Ix.dOp l, (I.Ix.dD l).toNat, (I.Ix.dA l).toNat, (I.Ix.dB l).toNat, I.Ix.dI l⟩
/-- How a step ends, and what there is behind it. -/
structure Out where
  k : Int
  num : Int
  why : Int
  c : Cp
  A : As
def stopV (o : Out) : Value := .agg #[.int .u8 o.k, .int .u32 o.num, .int .i64 o.why]
def ran (c : Cp) (A : As) : Out := ⟨0, 0, 0, c, A⟩
def flt (e : Int) (c : Cp) (A : As) : Out := ⟨2, 0, e, c, A⟩

def nx (c : Cp) : Int := (c.pc + 8) % 4294967296
def adr (x : Xn) (c : Cp) : Nat := ((c.r x.a + x.im) % 4294967296).toNat
def memN (op : Int) : Nat := if op = 34 ∨ op = 36 then 4 else 1
def memT (x : Xn) (c : Cp) : ByteArray := ⟨(I.Wd.le (c.r x.b).toNat (memN x.op)).toArray⟩
def goes (op x y : Int) : Bool := decide (op = 40 ∨ op = 41 ∨ (op = 43 ∧ x = y) ∨ (op = 44 ∧ x ≠ y) ∨ (op = 45 ∧ x < y) ∨ (op = 46 ∧ y ≤ x))
def execO (x : Xn) (c : Cp) (A : As) : Out :=
  if x.op ≤ 14 then ran (setPc (setR c x.d (O.opI x.op (c.r x.a) (c.r x.b))) (nx c)) A
  else if x.op ≤ 30 then ran (setPc (setR c x.d (O.opI (x.op - 16) (c.r x.a) x.im)) (nx c)) A
  else if x.op = 32 then ran (setPc (setR c x.d x.im) (nx c)) A
  else if x.op ≤ 34 then (if getE A 1 (adr x c) (memN x.op) = 0 then ran (setPc (setR c x.d (I.getV (getS A 1 (adr x c) (memN x.op)))) (nx c)) A else flt 50 c A)
  else if x.op ≤ 36 then (if putE A 2 (adr x c) (memT x c) = 0 then ran (setPc c (nx c)) (putR A 2 (adr x c) (memT x c)) else flt 50 c A)
  else if x.op = 42 then ran (setPc c (c.r x.a)) A
  else if x.op = 50 then ⟨1, x.im, 0, setPc c (nx c), A⟩
  else if goes x.op (c.r x.a) (c.r x.b) = true then ran (setPc (if x.op = 41 then setR c x.d (nx c) else c) x.im) A
  else ran (setPc c (nx c)) A
def stepO (c : Cp) (A : As) : Out :=
  if getE A 4 c.pc.toNat 8 = 0 then (if I.Ix.decOk (I.bt (getS A 4 c.pc.toNat 8)) = true then execO (inOf (I.bt (getS A 4 c.pc.toNat 8))) c A else flt 7 c A) else flt 50 c A
/-- At most so many steps. -/
def runO : Nat → Cp → As → Out × Nat
  | 0, c, A => (ran c A, 0)
  | n + 1, c, A => if (stepO c A).k = 0 then ((runO n (stepO c A).c (stepO c A).A).1, (runO n (stepO c A).c (stepO c A).A).2 + 1) else (stepO c A, if (stepO c A).k = 2 then 0 else 1)

theorem setR_ok {c : Cp} (h : c.Ok) (d : Nat) {v : Int} (h0 : 0 ≤ v) (h1 : v < 4294967296) : (setR c d v).Ok := by
  refine ⟨fun j => ?_, fun j => ?_, ?_, h.plo, h.phi⟩
  · show 0 ≤ if d ≠ 0 ∧ j = d then v else c.r j
    split
    · exact h0
    · exact h.lo j
  · show (if d ≠ 0 ∧ j = d then v else c.r j) < 4294967296
    split
    · exact h1
    · exact h.hi j
  · show (if d ≠ 0 ∧ 0 = d then v else c.r 0) = 0
    rw [if_neg (by omega)]; exact h.zero
theorem setPc_ok {c : Cp} (h : c.Ok) {p : Int} (h0 : 0 ≤ p) (h1 : p < 4294967296) : (setPc c p).Ok := ⟨h.lo, h.hi, h.zero, h0, h1⟩
theorem nx_lo (c : Cp) : 0 ≤ nx c := by unfold nx; omega
theorem nx_hi (c : Cp) : nx c < 4294967296 := by unfold nx; omega
theorem adr_lt (x : Xn) (c : Cp) : adr x c < 4294967296 := by unfold adr; omega

theorem Xn.Ok.regs {x : Xn} (h : x.Ok) : x.d < 16 ∧ x.a < 16 ∧ x.b < 16 := by
  obtain ⟨_, h1, h2, h3, _⟩ := I.Ix.ok_parts h.o
  have h4 := I.Ix.regOk_lt _ _ h1
  have h5 := I.Ix.regOk_lt _ _ h2
  have h6 := I.Ix.regOk_lt _ _ h3
  omega
theorem ops_fin : ∀ k : Fin 51, I.Ix.tab.getD k.val 0 ≠ 0 → k.val ∈ [1, 2, 3, 4, 5, 6, 7, 8, 9, 10, 11, 12, 13, 14, 17, 19, 22, 23, 24, 25, 26, 29, 30, 32, 33, 34, 35, 36, 40, 41, 42, 43, 44, 45, 46, 50] := by decide
theorem Xn.Ok.ops {x : Xn} (h : x.Ok) : (1 ≤ x.op ∧ x.op ≤ 14) ∨ (17 ≤ x.op ∧ x.op ≤ 30) ∨ x.op = 32 ∨ x.op = 33 ∨ x.op = 34 ∨ x.op = 35 ∨ x.op = 36 ∨ x.op = 40 ∨ x.op = 41 ∨ x.op = 42 ∨ x.op = 43 ∨ x.op = 44 ∨ x.op = 45 ∨ x.op = 46 ∨ x.op = 50 := by
  obtain ⟨h0, _⟩ := I.Ix.ok_parts h.o
  unfold I.Ix.isOp I.Ix.bitsI at h0
  simp only [decide_eq_true_eq] at h0
  by_cases hk : x.op.toNat < 51
  · have h1 := ops_fin ⟨x.op.toNat, hk⟩ (by intro hc; apply h0; simp only at hc; rw [hc]; rfl)
    simp only [List.mem_cons, List.not_mem_nil, or_false] at h1
    omega
  · exact absurd (by rw [List.getD_eq_getElem?_getD, List.getElem?_eq_none (by simp [I.Ix.tab]; omega)]; rfl) h0
theorem inOf_ok {l : List UInt8} (h : I.Ix.decOk l = true) : (inOf l).Ok := by
  have hl : l.length = 8 ∧ I.Ix.insnOf l = true := by
    unfold I.Ix.decOk at h
    simp only [Bool.and_eq_true, decide_eq_true_eq] at h
    exact ⟨h.1, h.2.2⟩
  have d0 : 0 ≤ I.Ix.dD l := by unfold I.Ix.dD; have := I.Ix.byteAt_lo l 1; omega
  have a0 : 0 ≤ I.Ix.dA l := by unfold I.Ix.dA; have := I.Ix.byteAt_lo l 1; omega
  have b0 : 0 ≤ I.Ix.dB l := I.Ix.byteAt_lo l 2
  refine ⟨?_, ?_, ?_, ?_⟩
  · show I.Ix.insnOk (I.Ix.dOp l) ((I.Ix.dD l).toNat : Int) ((I.Ix.dA l).toNat : Int) ((I.Ix.dB l).toNat : Int) (I.Ix.dI l) = true
    rw [Int.toNat_of_nonneg d0, Int.toNat_of_nonneg a0, Int.toNat_of_nonneg b0]
    exact hl.2
  · exact I.Ix.byteAt_hi l 0
  · show 0 ≤ I.Ix.dI l
    unfold I.Ix.dI; omega
  · show I.Ix.dI l < 4294967296
    unfold I.Ix.dI
    have := I.Wd.unle_lt32 (l.drop 4) (by rw [List.length_drop]; omega)
    omega
theorem getV_lo (s : ByteArray) : 0 ≤ I.getV s := by unfold I.getV; omega
theorem getV_hi (s : ByteArray) : I.getV s < 4294967296 := by
  unfold I.getV I.Wd.getN
  split
  · decide
  · rename_i h
    have := I.Wd.unle_lt32 s.data.toList (by omega)
    omega
theorem exec_ok {x : Xn} (hx : x.Ok) {c : Cp} (h : c.Ok) (A : As) : (execO x c A).c.Ok := by
  have h1 := nx_lo c
  have h2 := nx_hi c
  have ha := h.lo x.a
  have ha' := h.hi x.a
  unfold execO
  split
  · exact setPc_ok (setR_ok h _ (O.opI_lo _ _ _) (O.opI_hi _ _ _ (h.hi _) (h.hi _))) h1 h2
  split
  · exact setPc_ok (setR_ok h _ (O.opI_lo _ _ _) (O.opI_hi _ _ _ (h.hi _) hx.i1)) h1 h2
  split
  · exact setPc_ok (setR_ok h _ hx.i0 hx.i1) h1 h2
  split
  · split
    · exact setPc_ok (setR_ok h _ (getV_lo _) (getV_hi _)) h1 h2
    · exact h
  split
  · split
    · exact setPc_ok h h1 h2
    · exact h
  split
  · exact setPc_ok h ha ha'
  split
  · exact setPc_ok h h1 h2
  split
  · refine setPc_ok ?_ hx.i0 hx.i1
    split
    · exact setR_ok h _ h1 h2
    · exact h
  · exact setPc_ok h h1 h2
theorem step_ok {c : Cp} (h : c.Ok) (A : As) : (stepO c A).c.Ok := by
  unfold stepO
  split
  · split
    · rename_i hd
      exact exec_ok (inOf_ok hd) h A
    · exact h
  · exact h
theorem run_ok (n : Nat) : ∀ {c : Cp}, c.Ok → ∀ A, (runO n c A).1.c.Ok := by
  induction n with
  | zero => intro c h A; exact h
  | succ n ih =>
    intro c h A
    unfold runO
    split
    · exact ih (step_ok h A) _
    · exact step_ok h A
end Go.Proofs.YtgdbhmlmioihpaaDoor
