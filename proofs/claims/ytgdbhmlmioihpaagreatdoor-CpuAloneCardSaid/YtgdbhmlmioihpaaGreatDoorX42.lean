/- Some texts of one proof, one behind the other; each has its own head below. -/
import Derived.Test.YtgdbhmlmioihpaaGreatDoorX23
import Derived.Test.YtgdbhmlmioihpaaGreatDoorX38
import Derived.Test.YtgdbhmlmioihpaaGreatDoorX41
import Derived.Test.YtgdbhmlmioihpaaGreatDoorX21
import Derived.BigQuiet
import Derived.Deep.RegionHeld3
/- What a step changes: one register at most, or bytes in a row that may be written. -/
section
set_option linter.unusedVariables false
namespace Go.Proofs.YtgdbhmlmioihpaaGreatDoor
open Go Go.RowKit

theorem nothing_put (A : As) (ad : Nat) : putE A 2 ad ⟨#[]⟩ = 0 ∧ putR A 2 ad ⟨#[]⟩ = A := by
  have h : okAll A 2 ad (⟨#[]⟩ : ByteArray).size = true := okAll_zero A 2 ad
  unfold putE putR
  rw [if_pos h, if_pos h]
  exact ⟨rfl, putAt_nil A ad⟩
theorem memT_size (x : Xn) (c : Cp) : (memT x c).size ≤ 4 := by
  show (I.Wd.le (c.r x.b).toNat (memN x.op)).toArray.size ≤ 4
  simp only [List.size_toArray, I.Wd.le_length]
  unfold memN; split <;> omega
/-- The bytes that a step writes: none, or at most 4 in a row. -/
structure Writes (c : Cp) (A : As) (o : Out) (ad : Nat) (t : ByteArray) : Prop where
  lt : ad < 4294967296
  four : t.size ≤ 4
  ok : putE A 2 ad t = 0
  eq : o.A = putR A 2 ad t
  regs : t.size ≠ 0 → o.c.r = c.r
  fault : o.k = 2 → t.size = 0
theorem writes_none {c : Cp} {A : As} {o : Out} (h : o.A = A) : ∃ ad t, Writes c A o ad t :=
  ⟨0, ⟨#[]⟩, by decide, by decide, (nothing_put A 0).1, by rw [h, (nothing_put A 0).2], fun h => absurd rfl h, fun _ => rfl⟩
theorem exec_writes (x : Xn) (c : Cp) (A : As) : ∃ ad t, Writes c A (execO x c A) ad t := by
  unfold execO
  split
  · exact writes_none rfl
  split
  · exact writes_none rfl
  split
  · exact writes_none rfl
  split
  · split
    · exact writes_none rfl
    · exact writes_none rfl
  split
  · split
    · rename_i hE
      exact ⟨adr x c, memT x c, adr_lt x c, memT_size x c, hE, rfl, fun _ => rfl, fun h => absurd h (by simp [ran])⟩
    · exact writes_none rfl
  split
  · exact writes_none rfl
  split
  · exact writes_none rfl
  split
  · exact writes_none rfl
  · exact writes_none rfl
theorem step_writes (c : Cp) (A : As) : ∃ ad t, Writes c A (stepO c A) ad t := by
  unfold stepO
  split
  · split
    · exact exec_writes _ _ _
    · exact writes_none rfl
  · exact writes_none rfl
theorem exec_reg (x : Xn) (c : Cp) (A : As) : ∃ d : Nat, ∀ j, j ≠ d → (execO x c A).c.r j = c.r j := by
  have hs : ∀ (v p : Int) (j : Nat), j ≠ x.d → (setPc (setR c x.d v) p).r j = c.r j := fun v p j hj => by
    show (if x.d ≠ 0 ∧ j = x.d then v else c.r j) = c.r j
    rw [if_neg (by rintro ⟨_, h⟩; exact hj h)]
  refine ⟨x.d, fun j hj => ?_⟩
  unfold execO
  repeat' split
  all_goals first
    | exact hs _ _ j hj
    | rfl
theorem step_reg (c : Cp) (A : As) : ∃ d : Nat, ∀ j, j ≠ d → (stepO c A).c.r j = c.r j := by
  unfold stepO
  split
  · split
    · exact exec_reg _ _ _
    · exact ⟨0, fun _ _ => rfl⟩
  · exact ⟨0, fun _ _ => rfl⟩
/-- How many of the first registers differ, where d is the one that may. -/
def rgN (c2 c1 : Cp) (d k : Nat) : Nat := if d < k ∧ c2.r d ≠ c1.r d then 1 else 0
theorem rgN_zero (c2 c1 : Cp) (d : Nat) : rgN c2 c1 d 0 = 0 := by unfold rgN; rw [if_neg (by omega)]
theorem rgN_eq {c2 c1 : Cp} {d k : Nat} (h : c2.r k = c1.r k) : rgN c2 c1 d (k + 1) = rgN c2 c1 d k := by
  unfold rgN
  by_cases hd : d = k
  · subst hd; rw [if_neg (by rintro ⟨_, h2⟩; exact h2 h), if_neg (by rintro ⟨_, h2⟩; exact h2 h)]
  · by_cases h1 : d < k ∧ c2.r d ≠ c1.r d
    · rw [if_pos h1, if_pos ⟨by omega, h1.2⟩]
    · rw [if_neg h1, if_neg (by rintro ⟨h2, h3⟩; exact h1 ⟨by omega, h3⟩)]
theorem rgN_ne {c2 c1 : Cp} {d k : Nat} (hd : ∀ j, j ≠ d → c2.r j = c1.r j) (h : c2.r k ≠ c1.r k) : rgN c2 c1 d (k + 1) = rgN c2 c1 d k + 1 := by
  have hk : k = d := by
    by_cases hk : k = d
    · exact hk
    · exact absurd (hd k hk) h
  subst hk
  unfold rgN
  rw [if_pos ⟨by omega, h⟩, if_neg (by omega)]
theorem rgN_le (c2 c1 : Cp) (d k : Nat) : rgN c2 c1 d k ≤ 1 := by unfold rgN; split <;> omega
theorem rgN_same {c2 c1 : Cp} (h : c2.r = c1.r) (d k : Nat) : rgN c2 c1 d k = 0 := by unfold rgN; rw [if_neg]; rintro ⟨_, h2⟩; exact h2 (by rw [h])

/-- A byte that was written lies in a page that may be. -/
theorem perm_write {A : As} {ad : Nat} {t : ByteArray} (hE : putE A 2 ad t = 0) {x k : Nat} (hx : x % 256 = 0) (hk : k < 256) (h1 : ad ≤ x + k) (h2 : x + k < ad + t.size) : (permV A x &&& 2) = 2 := by
  obtain ⟨h3, _⟩ := putE_yes hE
  have h4 := (okAll_iff A 2 ad t.size).1 h3 (x + k - ad) (by omega)
  rw [show (ad + (x + k - ad)) / 256 = x / 256 by omega] at h4
  obtain ⟨f, hf, hm⟩ := okPg_some h4
  unfold permV
  rw [hf]
  unfold met at hm
  exact eq_of_beq hm
theorem perm_bit (p : Nat) (hp : p < 256) (h : (p &&& 2) = 2) : (bits BinOp.and IntKind.u8 (p : Int) 2 == 0) = false := by
  have key : ∀ p : Fin 256, (p.val &&& 2) = 2 → (bits BinOp.and IntKind.u8 (p.val : Int) 2 == 0) = false := by decide +kernel
  exact key ⟨p, hp⟩ h
theorem permV_lt (A : As) (x : Nat) : permV A x < 256 := by
  unfold permV
  split
  · exact UInt8.toNat_lt _
  · decide
/-- Pages lie one behind the other. -/
theorem pages_apart (A : As) {i j : Nat} (hij : i < j) (hj : j < (pagesOf A).length) {x y : Nat} (hx : (pagesOf A).toArray[i]! = (x : Int)) (hy : (pagesOf A).toArray[j]! = (y : Int)) : x + 256 ≤ y ∧ x % 256 = 0 := by
  have hi : i < (pagesOf A).length := by omega
  rw [getElem!_pos (pagesOf A).toArray i (by simpa using hi), List.getElem_toArray] at hx
  rw [getElem!_pos (pagesOf A).toArray j (by simpa using hj), List.getElem_toArray] at hy
  have h1 := List.pairwise_iff_getElem.1 (pagesOf_lt A) i j hi hj hij
  obtain ⟨a, _, _, ha⟩ := (mem_pagesOf A _).1 (List.getElem_mem hi)
  obtain ⟨b, _, _, hb⟩ := (mem_pagesOf A _).1 (List.getElem_mem hj)
  omega
theorem page_mult (A : As) {i : Nat} (hi : i < (pagesOf A).length) {x : Nat} (hx : (pagesOf A).toArray[i]! = (x : Int)) : x % 256 = 0 := by
  rw [getElem!_pos (pagesOf A).toArray i (by simpa using hi), List.getElem_toArray] at hx
  obtain ⟨a, _, _, ha⟩ := (mem_pagesOf A _).1 (List.getElem_mem hi)
  omega

/-- What is known of the first and the last byte that differ. -/
structure Span (ad sz : Nat) (F La : Int) (sm : Bool) : Prop where
  no : sm = false → F = 0 ∧ La = 0
  yes : sm = true → (ad : Int) ≤ F ∧ F ≤ La ∧ La < (ad : Int) + (sz : Int) ∧ sz ≠ 0
/-- .. where all bytes from cur on are still to come. -/
def SpanTo (ad sz : Nat) (F La : Int) (sm : Bool) (cur : Nat) : Prop := Span ad sz F La sm ∧ (sm = true → La < (cur : Int))
theorem SpanTo.mono {ad sz : Nat} {F La : Int} {sm : Bool} {c1 c2 : Nat} (h : SpanTo ad sz F La sm c1) (hc : c1 ≤ c2) : SpanTo ad sz F La sm c2 := ⟨h.1, fun hs => by have := h.2 hs; omega⟩
theorem SpanTo.start (ad sz cur : Nat) : SpanTo ad sz 0 0 false cur := ⟨⟨fun _ => ⟨rfl, rfl⟩, fun h => by cases h⟩, fun h => by cases h⟩
theorem SpanTo.first {ad sz : Nat} {F La : Int} {cur : Nat} (h : SpanTo ad sz F La false cur) (h1 : ad ≤ cur) (h2 : cur < ad + sz) : SpanTo ad sz (cur : Int) (cur : Int) true (cur + 1) :=
  ⟨⟨fun h => (by cases h), fun _ => (by omega)⟩, fun _ => (by omega)⟩
theorem SpanTo.next {ad sz : Nat} {F La : Int} {cur : Nat} (h : SpanTo ad sz F La true cur) (h1 : ad ≤ cur) (h2 : cur < ad + sz) : SpanTo ad sz F (cur : Int) true (cur + 1) := by
  obtain ⟨h3, h4, h5, h6⟩ := h.1.yes rfl
  have h7 := h.2 rfl
  exact ⟨⟨fun h => (by cases h), fun _ => (by omega)⟩, fun _ => (by omega)⟩
end Go.Proofs.YtgdbhmlmioihpaaGreatDoor
end

/- What an instruction does that is being done: what it reads, and how it sets D. -/
section
set_option linter.unusedVariables false
namespace Go.Proofs.YtgdbhmlmioihpaaGreatDoor
open Go Go.RowKit Go.Maps

section
variable {q b e n k4 : Nat} {c : Cp} {x : Xn} {A : As}

theorem Dr.drew {w0 w : World} (t : Dr w0 q b e n k4 c x A w) : Dr w0 q b e n k4 c x A w.drew := t.below ⟨rfl, rfl, rfl, Nat.le_refl _, fun _ _ => rfl⟩
set_option maxHeartbeats 1000000 in
set_option maxRecDepth 100000 in
theorem place_any (w : World) (s : Do q b e n c x A w) (ha : x.a < 16) : Calls Tryz.prog 106 #[.pointer (some ⟨q, 0, none⟩)] w fun r w' => r = .returned (.int .u32 (adr x c : Int)) ∧ ∃ m, w' = w.drewN m := by
  obtain ⟨c17, c18, c19, c20, c21, c22⟩ := s.six
  have ca := s.reg x.a ha
  have a16 : (x.a : Int) < 16 := by omega
  have hwr : IntKind.u32.wrap (c.r x.a + x.im) = (adr x c : Int) := by rw [u32_mod]; unfold adr; omega
  obtain ⟨X, hX⟩ : ∃ X, X = c.r x.a := ⟨_, rfl⟩
  obtain ⟨a, ha2⟩ : ∃ a, a = x.a := ⟨_, rfl⟩
  obtain ⟨im, him⟩ : ∃ im, im = x.im := ⟨_, rfl⟩
  obtain ⟨AD, hAD⟩ : ∃ AD, AD = adr x c := ⟨_, rfl⟩
  rw [← hX, ← him, ← hAD] at hwr
  rw [← hX, ← ha2] at ca
  rw [← ha2] at c19 a16
  rw [← him] at c21
  rw [← hAD]
  clear hX ha2 him hAD s ha c17 c18 c20 c22
  go_enter Tryz.func106, Tryz.ntmps106
  go_upto_region 1 with (fail)
  go_quiet (fail)
  go_wp2
  go_ret
  exact ⟨rfl, _, rfl⟩

set_option maxHeartbeats 2000000 in
set_option maxRecDepth 100000 in
theorem become_any (w : World) (s : Do q b e n c x A w) (hd : x.d < 16) (v : Int) :
    Calls Tryz.prog 87 #[.pointer (some ⟨q, 0, none⟩), .int .u32 v] w fun r w' => r = .returned (.agg #[.int .u8 0, .int .u32 0, .int .i64 0]) ∧ Do q b e n (setR c x.d v) x A w' ∧ DT w w' b e q := by
  obtain ⟨k4, hk4⟩ : ∃ k4, k4 = w.heap.size := ⟨_, rfl⟩
  obtain ⟨wa, hwa⟩ : ∃ wa, wa = w.alloc (.cells #[.int .u8 0, .int .u32 0, .int .i64 0] 39) := ⟨_, rfl⟩
  have T0 : Hid (Dr w q b e n k4 c x A wa) := Lib.hid (by rw [hk4, hwa]; exact Dr.start s)
  obtain ⟨c17, c18, c19, c20, c21, c22⟩ := T0.out.s.six
  obtain ⟨D, hD⟩ : ∃ D, D = x.d := ⟨_, rfl⟩
  rw [← hD] at c18
  have d16 : (D : Int) < 16 := by omega
  have HP : Hid (∀ w1, Do q b e n c x A w1 → Calls Tryz.prog 47 #[.pointer (some ⟨q, 0, none⟩), .int .u8 (D : Int), .int .u32 v] w1 fun r w' => r = .returned (.tuple #[]) ∧ Do q b e n (setR c D v) x A w' ∧ DT w1 w' b e q) := Lib.hid fun w1 h1 => by
    refine (pset_any q 112 (dcs c x b) D (by omega) v _ (dcs_reg c x b D (by omega)) w1 h1.blk).mono ?_
    rintro r w' ⟨q1, q2, q3⟩
    rw [dcs_pset c x b D (by omega) v] at q2
    exact ⟨q1, h1.grown q3 q2, DT.grown q3 b e⟩
  rw [← hD]
  have HK := Lib.hid hk4
  have HW := Lib.hid hwa
  clear hD hd s hk4 hwa c17 c19 c20 c21 c22
  go_enter Tryz.func87, Tryz.ntmps87
  go_upto_region 1 with (fail)
  rw [← HW.out, ← HK.out]
  clear HW HK
  refine wp_region_quiet_tail 9 (by kernel_rfl) (by kernel_rfl) ?_
  simp only [List.take_succ_cons, List.take_zero, List.drop_succ_cons, List.drop_zero]
  repeat (go_big_quiet_step (fail))
  refine wpQuiet_nil ?_
  intro _ hw'
  obtain ⟨nq, hw''⟩ := hw'
  subst hw''
  have T1 := Lib.hid (T0.out.below (below_drewN _ nq))
  clear T0 c18 d16
  go_wp2_with fail
  refine (HP.out _ T1.out.s).mono ?_; rintro r w1 ⟨rfl, s1, t1⟩
  have T2 := Lib.hid (T1.out.call s1 t1)
  clear s1 t1 T1 HP
  obtain ⟨⟨z0, z1, z2⟩, f0, f1, f2⟩ := T2.out.r.three
  have FF := Lib.hid (T2.out.stop3 (.int .u8 0) (.int .u32 0) (.int .i64 0))
  go_wp2
  refine bodyPost_ret (v := .agg #[.int .u8 0, .int .u32 0, .int .i64 0]) (res_stop Tryz.results87 _ _ k4 _ _ _ rfl FF.out.r) rfl ⟨rfl, FF.out.s, FF.out.dt⟩
end
end Go.Proofs.YtgdbhmlmioihpaaGreatDoor
end
