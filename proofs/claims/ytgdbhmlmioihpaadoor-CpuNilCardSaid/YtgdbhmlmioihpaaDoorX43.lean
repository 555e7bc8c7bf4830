/- Whatever instruction: the function that the table has for its op does what the document's step does. -/
import Derived.Test.YtgdbhmlmioihpaaDoorX35
import Derived.Test.YtgdbhmlmioihpaaDoorX40
import Derived.Test.YtgdbhmlmioihpaaDoorX41
import Derived.Test.YtgdbhmlmioihpaaDoorX42
set_option linter.unusedVariables false
namespace Go.Proofs.YtgdbhmlmioihpaaDoor
open Go Go.RowKit Go.Maps

def fnOf (op : Int) : Nat :=
  if op ≤ 14 then 22 else if op ≤ 30 then 23 else if op = 32 then 24 else if op = 33 then 25 else if op = 34 then 26 else if op = 35 then 27 else if op = 36 then 28
  else if op = 40 then 29 else if op = 41 then 30 else if op = 42 then 31 else if op = 43 then 32 else if op = 44 then 33 else if op = 45 then 34 else if op = 46 then 35 else 36
def litF (D : DataW Unit) : Option Int := match D with | .lit (.int .i64 z) => some z | _ => none
theorem litF_inv {D : DataW Unit} {z : Int} (h : litF D = some z) : D = .lit (.int .i64 z) := by
  unfold litF at h
  split at h
  · simp only [Option.some.injEq] at h; rw [h]
  · cases h
theorem fns_fin : ∀ k : Fin 51, I.Ix.tab.getD k.val 0 ≠ 0 → litF ((tblF fns).atKey (.int .u8 (k.val : Int)) .nil) = some (fnOf (k.val : Int) : Int) := by decide +kernel
theorem act_look {w : World} {g : Nat} (h : ActAt w g) {x : Xn} (hx : x.Ok) : (Instr.lookup 49 (.map (some g)) (.int .u8 x.op) false).run Tryd.prog w = .ok (fnV (fnOf x.op)) w := by
  have ho := hx.ops
  refine FnsAt.look h x.op (by omega) hx.o1 (litF_inv ?_)
  obtain ⟨h0, _⟩ := I.Ix.ok_parts hx.o
  unfold I.Ix.isOp I.Ix.bitsI at h0
  simp only [decide_eq_true_eq] at h0
  have hk : x.op.toNat < 51 := by omega
  have := fns_fin ⟨x.op.toNat, hk⟩ (by intro hc; apply h0; simp only at hc; rw [hc]; rfl)
  simp only at this
  rwa [show ((x.op.toNat : Nat) : Int) = x.op by omega] at this

theorem ite_q (Q : Nat → Prop) {P : Prop} [Decidable P] {a b : Nat} (ha : Q a) (hb : Q b) : Q (if P then a else b) := by
  by_cases h : P
  · rw [if_pos h]; exact ha
  · rw [if_neg h]; exact hb
theorem fnOf_all (Q : Nat → Prop) (h0 : Q 22) (h1 : Q 23) (h2 : Q 24) (h3 : Q 25) (h4 : Q 26) (h5 : Q 27) (h6 : Q 28) (h7 : Q 29) (h8 : Q 30) (h9 : Q 31) (h10 : Q 32) (h11 : Q 33) (h12 : Q 34) (h13 : Q 35) (h14 : Q 36) (op : Int) : Q (fnOf op) := (ite_q Q h0 (ite_q Q h1 (ite_q Q h2 (ite_q Q h3 (ite_q Q h4 (ite_q Q h5 (ite_q Q h6 (ite_q Q h7 (ite_q Q h8 (ite_q Q h9 (ite_q Q h10 (ite_q Q h11 (ite_q Q h12 (ite_q Q h13 h14))))))))))))))
theorem fn_enter (op : Int) (args : Array Value) (w : World) : (callFunc (fnOf op) args).run Tryd.prog w = .ok (.enter (fnOf op) args) w :=
  fnOf_all (fun f => (callFunc f args).run Tryd.prog w = .ok (.enter f args) w) (Tryd.call22 args w) (Tryd.call23 args w) (Tryd.call24 args w) (Tryd.call25 args w) (Tryd.call26 args w) (Tryd.call27 args w) (Tryd.call28 args w) (Tryd.call29 args w) (Tryd.call30 args w) (Tryd.call31 args w) (Tryd.call32 args w) (Tryd.call33 args w) (Tryd.call34 args w) (Tryd.call35 args w) (Tryd.call36 args w) op
theorem goes43 (X Y : Int) : goes 43 X Y = (X == Y) := by unfold goes; rw [Bool.eq_iff_iff]; simp
theorem goes44 (X Y : Int) : goes 44 X Y = (X != Y) := by unfold goes; rw [Bool.eq_iff_iff]; simp
theorem goes45 (X Y : Int) : goes 45 X Y = decide (X < Y) := by unfold goes; rw [Bool.eq_iff_iff]; simp
theorem goes46 (X Y : Int) : goes 46 X Y = decide (X ≥ Y) := by unfold goes; rw [Bool.eq_iff_iff]; simp
section
variable {q b e n : Nat} {c : Cp} {x : Xn} {A : As}
/-- What is left behind an instruction. -/
structure Dz (w : World) (q b e n : Nat) (x : Xn) (o : Out) (r : Ending) (w' : World) : Prop where
  r : r = .returned (stopV o)
  c : ∃ c', Do q b e n c' x o.A w' ∧ (o.k ≠ 2 → c' = o.c)
  dt : DT w w' b e q
theorem putR_not (A : As) (need y : Nat) (s : ByteArray) (h : putE A need y s ≠ 0) : putR A need y s = A := by
  unfold putR
  rw [if_neg]
  intro h2
  apply h
  unfold putE
  rw [if_pos h2]
theorem act_any (w : World) (hc : c.Ok) (hx : x.Ok) (s : Do q b e n (setPc c (nx c)) x A w) : Calls Tryd.prog (fnOf x.op) #[.pointer (some ⟨q, 0, none⟩)] w (Dz w q b e n x (execO x c A)) := by
  have hp : (setPc c (nx c)).Ok := setPc_ok hc (nx_lo c) (nx_hi c)
  obtain ⟨hd, ha, hb⟩ := hx.regs
  have plain : ∀ (f : Nat) (c2 : Cp), fnOf x.op = f → execO x c A = ran c2 A → (Calls Tryd.prog f #[.pointer (some ⟨q, 0, none⟩)] w fun r w' => r = .returned (.agg #[.int .u8 0, .int .u32 0, .int .i64 0]) ∧ Do q b e n c2 x A w' ∧ DT w w' b e q) →
      Calls Tryd.prog (fnOf x.op) #[.pointer (some ⟨q, 0, none⟩)] w (Dz w q b e n x (execO x c A)) := by
    intro f c2 h1 h2 h3
    rw [h1, h2]
    exact h3.mono fun r w' ⟨q1, q2, q3⟩ => ⟨q1, ⟨c2, q2, fun _ => rfl⟩, q3⟩
  have loads : ∀ (f N : Nat), fnOf x.op = f → memN x.op = N → (execO x c A = if getE A 1 (adr x c) (memN x.op) = 0 then ran (setPc (setR c x.d (I.getV (getS A 1 (adr x c) (memN x.op)))) (nx c)) A else flt 50 c A) →
      (Calls Tryd.prog f #[.pointer (some ⟨q, 0, none⟩)] w fun r w' => r = .returned (.agg #[.int .u8 (ldK (getE A 1 (adr x (setPc c (nx c))) (N : Int))), .int .u32 0, .int .i64 (getE A 1 (adr x (setPc c (nx c))) (N : Int))]) ∧
        Do q b e n (ldC (getE A 1 (adr x (setPc c (nx c))) (N : Int)) (setPc c (nx c)) x.d (I.getV (getS A 1 (adr x (setPc c (nx c))) (N : Int)))) x A w' ∧ DT w w' b e q) →
      Calls Tryd.prog (fnOf x.op) #[.pointer (some ⟨q, 0, none⟩)] w (Dz w q b e n x (execO x c A)) := by
    intro f N h1 hN h2 h3
    rw [h1, h2, hN]
    change Calls Tryd.prog f _ w (fun r w' => r = .returned (.agg #[.int .u8 (ldK (getE A 1 (adr x c) (N : Int))), .int .u32 0, .int .i64 (getE A 1 (adr x c) (N : Int))]) ∧ Do q b e n (ldC (getE A 1 (adr x c) (N : Int)) (setPc c (nx c)) x.d (I.getV (getS A 1 (adr x c) (N : Int)))) x A w' ∧ DT w w' b e q) at h3
    rcases getE_two A 1 (adr x c) N (by rw [← hN]; unfold memN; split <;> decide) with hE | hE
    · rw [hE] at h3 ⊢
      rw [if_pos rfl]
      exact h3.mono fun r w' ⟨q1, q2, q3⟩ => ⟨q1, ⟨_, q2, fun _ => rfl⟩, q3⟩
    · rw [hE] at h3 ⊢
      rw [if_neg (by decide)]
      exact h3.mono fun r w' ⟨q1, q2, q3⟩ => ⟨q1, ⟨_, q2, fun h => absurd rfl h⟩, q3⟩
  have stores : ∀ (f : Nat), fnOf x.op = f → (execO x c A = if putE A 2 (adr x c) (memT x c) = 0 then ran (setPc c (nx c)) (putR A 2 (adr x c) (memT x c)) else flt 50 c A) →
      (Calls Tryd.prog f #[.pointer (some ⟨q, 0, none⟩)] w fun r w' => r = .returned (.agg #[.int .u8 (ldK (putE A 2 (adr x (setPc c (nx c))) (memT x c))), .int .u32 0, .int .i64 (putE A 2 (adr x (setPc c (nx c))) (memT x c))]) ∧
        Do q b e n (setPc c (nx c)) x (putR A 2 (adr x (setPc c (nx c))) (memT x c)) w' ∧ DT w w' b e q) →
      Calls Tryd.prog (fnOf x.op) #[.pointer (some ⟨q, 0, none⟩)] w (Dz w q b e n x (execO x c A)) := by
    intro f h1 h2 h3
    rw [h1, h2]
    change Calls Tryd.prog f _ w (fun r w' => r = .returned (.agg #[.int .u8 (ldK (putE A 2 (adr x c) (memT x c))), .int .u32 0, .int .i64 (putE A 2 (adr x c) (memT x c))]) ∧ Do q b e n (setPc c (nx c)) x (putR A 2 (adr x c) (memT x c)) w' ∧ DT w w' b e q) at h3
    rcases putE_two A 2 (adr x c) (memT x c) with hE | hE
    · rw [hE] at h3 ⊢
      rw [if_pos rfl]
      exact h3.mono fun r w' ⟨q1, q2, q3⟩ => ⟨q1, ⟨_, q2, fun _ => rfl⟩, q3⟩
    · rw [putR_not A 2 (adr x c) (memT x c) (by rw [hE]; decide)] at h3
      rw [hE] at h3 ⊢
      rw [if_neg (by decide)]
      exact h3.mono fun r w' ⟨q1, q2, q3⟩ => ⟨q1, ⟨_, q2, fun h => absurd rfl h⟩, q3⟩
  have jumps : ∀ (f : Nat) (bv : Bool), fnOf x.op = f → x.op ≠ 41 → (execO x c A = if goes x.op (c.r x.a) (c.r x.b) = true then ran (setPc (if x.op = 41 then setR c x.d (nx c) else c) x.im) A else ran (setPc c (nx c)) A) → goes x.op (c.r x.a) (c.r x.b) = bv →
      (Calls Tryd.prog f #[.pointer (some ⟨q, 0, none⟩)] w fun r w' => r = .returned (.agg #[.int .u8 0, .int .u32 0, .int .i64 0]) ∧ Do q b e n (jmp bv (setPc c (nx c)) x) x A w' ∧ DT w w' b e q) →
      Calls Tryd.prog (fnOf x.op) #[.pointer (some ⟨q, 0, none⟩)] w (Dz w q b e n x (execO x c A)) := by
    intro f bv h1 h41 h2 hg h3
    rw [h1, h2, hg, if_neg h41]
    cases bv with
    | true => rw [if_pos rfl]; exact h3.mono fun r w' ⟨q1, q2, q3⟩ => ⟨q1, ⟨_, q2, fun _ => rfl⟩, q3⟩
    | false => rw [if_neg (by decide)]; exact h3.mono fun r w' ⟨q1, q2, q3⟩ => ⟨q1, ⟨_, q2, fun _ => rfl⟩, q3⟩
  rcases hx.ops with h | h | h | h | h | h | h | h | h | h | h | h | h | h | h
  · exact plain _ _ (by unfold fnOf; rw [if_pos h.2]) (by unfold execO; rw [if_pos h.2]; all_goals rfl) (operate_any w s hp hx h)
  · exact plain _ _ (by unfold fnOf; rw [if_neg (by omega), if_pos h.2]) (by unfold execO; rw [if_neg (by omega), if_pos h.2]; all_goals rfl) (operateOnNumber_any w s hp hx h)
  · exact plain _ _ (by rw [h]; rfl) (by unfold execO; rw [if_neg (by omega), if_neg (by omega), if_pos h]; all_goals rfl) (takeNumber_any w s hd)
  · exact loads _ 1 (by rw [h]; rfl) (by rw [h]; rfl) (by unfold execO; rw [if_neg (by omega), if_neg (by omega), if_neg (by omega), if_pos (by omega)]) (loadByte_any w s hx)
  · exact loads _ 4 (by rw [h]; rfl) (by rw [h]; rfl) (by unfold execO; rw [if_neg (by omega), if_neg (by omega), if_neg (by omega), if_pos (by omega)]) (loadWord_any w s hx)
  · exact stores _ (by rw [h]; rfl) (by unfold execO; rw [if_neg (by omega), if_neg (by omega), if_neg (by omega), if_neg (by omega), if_pos (by omega)]) (storeByte_any w s hp hx (memT x c) (by unfold memT; rw [h]; rfl))
  · exact stores _ (by rw [h]; rfl) (by unfold execO; rw [if_neg (by omega), if_neg (by omega), if_neg (by omega), if_neg (by omega), if_pos (by omega)]) (storeWord_any w s hp hx (memT x c) (by unfold memT; rw [h]; rfl))
  · exact plain _ _ (by rw [h]; rfl) (by unfold execO; rw [if_neg (by omega), if_neg (by omega), if_neg (by omega), if_neg (by omega), if_neg (by omega), if_neg (by omega), if_neg (by omega), if_pos (by unfold goes; simp [h]), if_neg (by omega)]; all_goals rfl) (jump_any w s)
  · exact plain _ (setPc (setR c x.d (nx c)) x.im) (by rw [h]; rfl) (by unfold execO; rw [if_neg (by omega), if_neg (by omega), if_neg (by omega), if_neg (by omega), if_neg (by omega), if_neg (by omega), if_neg (by omega), if_pos (by unfold goes; simp [h]), if_pos h]) (jumpAndLink_any w s hd)
  · exact plain _ _ (by rw [h]; rfl) (by unfold execO; rw [if_neg (by omega), if_neg (by omega), if_neg (by omega), if_neg (by omega), if_neg (by omega), if_pos h]; all_goals rfl) (jumpToRegister_any w s ha)
  · exact jumps _ (c.r x.a == c.r x.b) (by rw [h]; rfl) (by omega) (by unfold execO; rw [if_neg (by omega), if_neg (by omega), if_neg (by omega), if_neg (by omega), if_neg (by omega), if_neg (by omega), if_neg (by omega)]) (by rw [h, goes43]) (jumpIfEqual_any w s ha hb)
  · exact jumps _ (c.r x.a != c.r x.b) (by rw [h]; rfl) (by omega) (by unfold execO; rw [if_neg (by omega), if_neg (by omega), if_neg (by omega), if_neg (by omega), if_neg (by omega), if_neg (by omega), if_neg (by omega)]) (by rw [h, goes44]) (jumpIfOther_any w s ha hb)
  · exact jumps _ (decide (c.r x.a < c.r x.b)) (by rw [h]; rfl) (by omega) (by unfold execO; rw [if_neg (by omega), if_neg (by omega), if_neg (by omega), if_neg (by omega), if_neg (by omega), if_neg (by omega), if_neg (by omega)]) (by rw [h, goes45]) (jumpIfLess_any w s ha hb)
  · exact jumps _ (decide (c.r x.a ≥ c.r x.b)) (by rw [h]; rfl) (by omega) (by unfold execO; rw [if_neg (by omega), if_neg (by omega), if_neg (by omega), if_neg (by omega), if_neg (by omega), if_neg (by omega), if_neg (by omega)]) (by rw [h, goes46]) (jumpIfNotLess_any w s ha hb)
  · have e1 : execO x c A = ⟨1, x.im, 0, setPc c (nx c), A⟩ := by
      unfold execO; rw [if_neg (by omega), if_neg (by omega), if_neg (by omega), if_neg (by omega), if_neg (by omega), if_neg (by omega), if_pos h]
    rw [show fnOf x.op = 36 by rw [h]; rfl, e1]
    exact (system_any w s).mono fun r w' ⟨q1, q2, q3⟩ => ⟨q1, ⟨_, q2, fun _ => rfl⟩, q3⟩
end
end Go.Proofs.YtgdbhmlmioihpaaDoor
