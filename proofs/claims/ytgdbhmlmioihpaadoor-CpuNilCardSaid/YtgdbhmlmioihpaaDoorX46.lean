/- A step of the program's cpu that does an instruction. -/
import Derived.Test.YtgdbhmlmioihpaaDoorX45
import Derived.Deep.MidRow
set_option linter.unusedVariables false
set_option linter.unusedSimpArgs false
namespace Go.Proofs.YtgdbhmlmioihpaaDoor
open Go Go.RowKit Go.Maps

theorem rcs_all (c : Cp) : rcs c = [.int .u32 (c.r 0), .int .u32 (c.r 1), .int .u32 (c.r 2), .int .u32 (c.r 3), .int .u32 (c.r 4), .int .u32 (c.r 5), .int .u32 (c.r 6), .int .u32 (c.r 7), .int .u32 (c.r 8), .int .u32 (c.r 9), .int .u32 (c.r 10), .int .u32 (c.r 11), .int .u32 (c.r 12), .int .u32 (c.r 13), .int .u32 (c.r 14), .int .u32 (c.r 15), .int .u32 c.pc] := rfl
theorem Blk.range {w : World} {g : Nat} {t : TypeId} {cs : List Value} (h : Blk w g t cs) : w.rangeAt g 0 cs := fun j v hv => by rw [h.cell, Nat.zero_add, hv]
theorem info_insn : (Tryd.prog.info? 58).map (·.size) = some 5 := by kernel_rfl
theorem info_doing : (Tryd.prog.info? 70).map (·.size) = some 23 := by kernel_rfl
theorem built_doing (c : Cp) (x : Xn) (b : Nat) : Tryd.prog.built 70 [(0, .agg (rcs c).toArray), (1, .agg (xcs x).toArray), (2, .pointer (some ⟨b + 1, 0, none⟩))] = some (dcs c x b).toArray := by
  kernel_rfl
theorem yieldsIf_build {P : Program} {ops : Array Oper} {S : World → Prop} {op : Oper} {a : Act} (hw : Region.wanted op (yielded ops a.tmps) = true) (t : TypeId) (parts : Array (Nat × Operand)) (ho : op.op = .build t parts) (vs : Array (Nat × Value)) (cells : Array Value)
    (hv : parts.map (fun (i, x) => (i, a.eval x)) = vs) (h : P.built t vs.toList = some cells) : YieldsIf P ops S op (.agg cells) a :=
  .inl ⟨hw, fun w _ => by
    unfold execOp
    simp only [ho, hv, Sem.run_bind, Sem.run_pure, Result.andThen_ok, run_build w t vs cells h]⟩
theorem wp_store_named {o : Oper} {a : Act} {w : World} {K : Act → World → Prop} {Q : Exit → Act → World → Prop} (ty : TypeId) (x y : Operand) (ho : o.op = .store ty x y) (g : Nat) (cells : List Value) (hx : a.eval x = .pointer (some ⟨g, 0, none⟩)) (hy : a.eval y = .agg cells.toArray)
    (t : TypeId) (old : List Value) (hg : Blk w g t old) (hi : (Tryd.prog.info? ty).map (·.size) = some cells.length) (hold : old.length = cells.length) (h1 : cells.toArray.all (·.oneCell') = true)
    (h : ∀ w', Blk w' g t cells → w.grownBy w' (some g) → K (a.put o.dst undef) w') : o.wp Tryd.prog a w K Q :=
  wp_store_row ty x y ho g cells.toArray hx hy t old.toArray hg (by simpa using hi) (by simpa using hold) h1
    (h _ (setRow_heap w g old.toArray cells.toArray t (0, 0) hg) ⟨rfl, rfl, rfl, by simp, fun j hj hr => setRow_other w g j _ (by rintro rfl; exact hr rfl)⟩)
theorem wpList_store_named {ops : Array Oper} {rest : List Oper} {o : Oper} {a : Act} {w : World} {Q : Exit → Act → World → Prop} (hgd : o.guard = none) (ty : TypeId) (x y : Operand) (ho : o.op = .store ty x y) (g : Nat) (cells : List Value) (hx : a.eval x = .pointer (some ⟨g, 0, none⟩)) (hy : a.eval y = .agg cells.toArray)
    (t : TypeId) (old : List Value) (hg : Blk w g t old) (hi : (Tryd.prog.info? ty).map (·.size) = some cells.length) (hold : old.length = cells.length) (h1 : cells.toArray.all (·.oneCell') = true)
    (h : ∀ w', Blk w' g t cells → w.grownBy w' (some g) → wpList Tryd.prog ops Q rest (a.put o.dst undef) w') : wpList Tryd.prog ops Q (o :: rest) a w :=
  wpList_plain hgd fun _ hK => wp_store_named ty x y ho g cells hx hy t old hg hi hold h1 (fun w' b1 b2 => hK _ _ (h w' b1 b2))
theorem dcs_range {w : World} {q b : Nat} {c : Cp} {x : Xn} (h : Blk w q 70 (dcs c x b)) : w.rangeAt q 0 (rcs c) := fun j v hv => by
  have hj : j < 17 := by
    have := (List.getElem?_eq_some_iff.1 hv).1
    rwa [rcs_length] at this
  rw [h.cell, Nat.zero_add]
  unfold dcs
  rw [List.getElem?_append_left (by rw [rcs_length]; exact hj), hv]
theorem xcs_length (x : Xn) : (xcs x).length = 5 := rfl
theorem dcs_length (c : Cp) (x : Xn) (b : Nat) : (dcs c x b).length = 23 := by simp [dcs, rcs_length, xcs]
theorem dcs_one (c : Cp) (x : Xn) (b : Nat) : (dcs c x b).toArray.all (·.oneCell') = true := by
  rw [Array.all_eq_true']
  intro v hv
  have hv : v ∈ dcs c x b := by simpa using hv
  unfold dcs at hv
  rcases List.mem_append.1 hv with h | h
  · exact ccs_one c v h
  · simp only [xcs, List.cons_append, List.nil_append, List.mem_cons, List.not_mem_nil, or_false] at h
    rcases h with rfl | rfl | rfl | rfl | rfl | rfl <;> rfl

theorem exec_flt (x : Xn) (c : Cp) (A : As) (h : (execO x c A).k = 2) : (execO x c A).c = c := by
  unfold execO at h ⊢
  split at h <;> try (simp [ran] at h; done)
  rename_i h1
  rw [if_neg h1]
  split at h <;> try (simp [ran] at h; done)
  rename_i h2
  rw [if_neg h2]
  split at h <;> try (simp [ran] at h; done)
  rename_i h3
  rw [if_neg h3]
  split at h
  · rename_i h4
    rw [if_pos h4]
    split at h
    · simp [ran] at h
    · rename_i h5
      rw [if_neg h5]; rfl
  · rename_i h4
    rw [if_neg h4]
    split at h
    · rename_i h6
      rw [if_pos h6]
      split at h
      · simp [ran] at h
      · rename_i h5
        rw [if_neg h5]; rfl
    · rename_i h6
      rw [if_neg h6]
      split at h <;> try (simp [ran] at h; done)
      rename_i h7
      rw [if_neg h7]
      split at h <;> try (simp at h; done)
      rename_i h8
      rw [if_neg h8]
      split at h <;> simp [ran] at h
/-- Behind the decoding: the instruction lies in k9. -/
structure Si (w0 : World) (p b e n g k6 k9 : Nat) (c : Cp) (x : Xn) (A : As) (w : World) : Prop where
  s : Sr w0 p b e n g k6 c A w
  i : Blk w k9 58 (xcs x)
section
variable {w0 w w' : World} {p b e n g k6 k9 : Nat} {c : Cp} {x : Xn} {A : As}
theorem Sr.grown {q : Nat} {t : TypeId} {ds : List Value} (s : Sr w0 p b e n g k6 c A w) (hg : w.grownBy w' (some q)) (hd : Blk w q t ds) (h1 : t ≠ 96) (h2 : t ≠ 43) (h3 : t ≠ 47) (h4 : t ≠ 30) (hq : w0.heap.size ≤ q) : Sr w0 p b e n g k6 c A w' := by
  have hc0 : Blk w p 47 (ccs c) := s.cpu
  refine ⟨hc0.grown hg (by intro he; cases he; exact hc0.ne hd (Ne.symm h3) rfl), s.sp.aside hg hd h1 h2, ?_, s.r.grown hg (by intro he; cases he; exact s.r.ne hd (Ne.symm h4) rfl), s.lo, s.low.grown hg s.low.size (fun j hj => by cases hj; exact hq)⟩
  refine FnsAt.same s.act (hg.block g (FnsAt.lt s.act) ?_)
  intro he
  cases he
  obtain ⟨es, k, hm, _⟩ := s.act
  unfold Blk at hd
  rw [hm] at hd
  cases hd
theorem Si.grown {q : Nat} {ds : List Value} (s : Si w0 p b e n g k6 k9 c x A w) (hg : w.grownBy w' (some q)) (hd : Blk w q 70 ds) (hq : w0.heap.size ≤ q) : Si w0 p b e n g k6 k9 c x A w' :=
  ⟨s.s.grown hg hd (by decide) (by decide) (by decide) (by decide) hq, s.i.grown hg (by intro he; cases he; exact s.i.ne hd (by decide) rfl)⟩
/-- Behind the instruction. -/
structure Sk (w0 : World) (p b e n k6 k11 : Nat) (c : Cp) (A : As) (y0 y1 y2 : Value) (w : World) : Prop where
  cpu : CAt w p c
  sp : SpaceAt w b e n A
  r6 : Blk w k6 30 [.int .u8 0, .int .u32 0, .int .i64 0]
  r11 : Blk w k11 30 [y0, y1, y2]
  dt : DT w0 w b e p
  lo : w0.heap.size ≤ k6
theorem Sk.stop3 {k11 : Nat} {y0 y1 y2 : Value} (t : Sk w0 p b e n k6 k11 c A y0 y1 y2 w) : Sf w0 p b e n k6 c A y0 y1 y2 (((w.setCell ⟨k6, 0, none⟩ y0).setCell ⟨k6, 1, none⟩ y1).setCell ⟨k6, 2, none⟩ y2) := stop_laid t.r6 t.lo t.cpu t.sp t.dt y0 y1 y2
theorem Sk.cput {k11 : Nat} {y0 y1 y2 : Value} {c2 : Cp} (t : Sk w0 p b e n k6 k11 c A y0 y1 y2 w) (hg : w.grownBy w' (some p)) (hb : Blk w' p 47 (rcs c2)) : Sk w0 p b e n k6 k11 c2 A y0 y1 y2 w' := by
  have hc0 : Blk w p 47 (ccs c) := t.cpu
  exact ⟨hb, t.sp.aside hg hc0 (by decide) (by decide), t.r6.grown hg (by intro he; cases he; exact t.r6.ne hc0 (by decide) rfl), t.r11.grown hg (by intro he; cases he; exact t.r11.ne hc0 (by decide) rfl), t.dt.trans (DT.grown hg b e), t.lo⟩
theorem Si.below (t : Si w0 p b e n g k6 k9 c x A w) (hb : Below w.heap.size w w') : Si w0 p b e n g k6 k9 c x A w' := ⟨t.s.below hb, t.i.below hb t.i.lt⟩

set_option maxHeartbeats 4000000 in
set_option maxRecDepth 100000 in
theorem cstep_act (hc : c.Ok) (w : World) (ht : I.Tabled w) (hcp : CAt w p c) (hs : SpaceAt w b e n A) (ha : ActAt w g) (hE : getE A 4 c.pc.toNat 8 = 0) (hD : I.Ix.decOk (I.bt (getS A 4 c.pc.toNat 8)) = true) :
    Calls Tryd.prog 15 #[.pointer (some ⟨p, 0, none⟩), .pointer (some ⟨b + 1, 0, none⟩), .map (some g)] w (Sn w p b e n (execO (inOf (I.bt (getS A 4 c.pc.toNat 8))) c A)) := by
  obtain ⟨k6, hk6⟩ : ∃ k6, k6 = w.heap.size := ⟨_, rfl⟩
  obtain ⟨wa, hwa⟩ : ∃ wa, wa = w.alloc (.cells #[.int .u8 0, .int .u32 0, .int .i64 0] 30) := ⟨_, rfl⟩
  have T0 : Hid (Sr w p b e n g k6 c A wa) := Lib.hid (by rw [hk6, hwa]; exact Sr.start hcp hs ha)
  obtain ⟨P, hP⟩ : ∃ P, P = c.pc.toNat := ⟨_, rfl⟩
  have hpl := hc.plo
  have hph := hc.phi
  have hPc : c.pc = (P : Int) := by omega
  have hPl : P < 4294967296 := by omega
  rw [← hP] at hE hD ⊢
  obtain ⟨S, hS⟩ : ∃ S, S = getS A 4 P 8 := ⟨_, rfl⟩
  rw [← hS] at hD ⊢
  have hx := inOf_ok hD
  obtain ⟨x, hxx⟩ : ∃ x, x = inOf (I.bt S) := ⟨_, rfl⟩
  have HFt : Hid (∀ w1, SpaceAt w1 b e n A → Calls Tryd.prog 20 #[.pointer (some ⟨b + 1, 0, none⟩), .int .u32 (P : Int)] w1 fun r w' => r = .returned (.tuple #[.string S, .int .i64 0]) ∧ Below w1.heap.size w1 w') := Lib.hid fun w1 h1 => by
    rw [hS, ← hE]
    exact fetch_any b e n A P hPl w1 h1
  have HDe : Hid (∀ w1, Below w.heap.size w w1 → Calls Tryd.prog 21 #[.string S] w1 fun r w' => r = .returned (.tuple #[.agg #[.int .u8 x.op, .int .u8 (x.d : Int), .int .u8 (x.a : Int), .int .u8 (x.b : Int), .int .u32 x.im], .int .i64 0]) ∧ Below w1.heap.size w1 w') := Lib.hid fun w1 h1 => by
    have := I.idecode_any S w1 (ht.below h1)
    rw [I.decV_yes S hD, I.decE_yes S hD] at this
    have d0 : 0 ≤ I.Ix.dD (I.bt S) := by unfold I.Ix.dD; have := I.Ix.byteAt_lo (I.bt S) 1; omega
    have a0 : 0 ≤ I.Ix.dA (I.bt S) := by unfold I.Ix.dA; have := I.Ix.byteAt_lo (I.bt S) 1; omega
    have b0 : 0 ≤ I.Ix.dB (I.bt S) := I.Ix.byteAt_lo (I.bt S) 2
    rw [hxx]
    show Calls _ _ _ _ (fun r w' => r = .returned (.tuple #[.agg #[.int .u8 (I.Ix.dOp (I.bt S)), .int .u8 ((I.Ix.dD (I.bt S)).toNat : Int), .int .u8 ((I.Ix.dA (I.bt S)).toNat : Int), .int .u8 ((I.Ix.dB (I.bt S)).toNat : Int), .int .u32 (I.Ix.dI (I.bt S))], .int .i64 0]) ∧ Below w1.heap.size w1 w')
    rw [Int.toNat_of_nonneg d0, Int.toNat_of_nonneg a0, Int.toNat_of_nonneg b0]
    exact this
  rw [← hxx] at hx ⊢
  have cpc : wa.cell? ⟨p, 16, none⟩ = some (.int .u32 (P : Int)) := by
    have hb : Blk wa p 47 (rcs c) := T0.out.cpu
    rw [hb.cell, rcs_pc c, hPc]
  obtain ⟨NX, hNX⟩ : ∃ NX, NX = nx c := ⟨_, rfl⟩
  have HNX : Hid (IntKind.u32.wrap ((P : Int) + 8) = NX) := Lib.hid (by rw [u32_mod, hNX, ← hPc]; rfl)
  obtain ⟨F, hF⟩ : ∃ F, F = fnOf x.op := ⟨_, rfl⟩
  obtain ⟨O, hO⟩ : ∃ O, O = execO x c A := ⟨_, rfl⟩
  obtain ⟨K, NU, WY, c2, A2⟩ := O
  have HA : Hid (∀ w1 q, Do q b e n (setPc c NX) x A w1 → Calls Tryd.prog F #[.pointer (some ⟨q, 0, none⟩)] w1 fun r w' => r = .returned (.agg #[.int .u8 K, .int .u32 NU, .int .i64 WY]) ∧ (∃ c', Do q b e n c' x A2 w' ∧ (K ≠ 2 → c' = c2)) ∧ DT w1 w' b e q) := Lib.hid fun w1 q h1 => by
    rw [hF]; rw [hNX] at h1
    have := act_any w1 hc hx h1
    rw [← hO] at this
    exact this.mono fun r w' h => ⟨h.r, h.c, h.dt⟩
  have HLk : Hid (∀ w1, ActAt w1 g → (Instr.lookup 49 (.map (some g)) (.int .u8 x.op) false).run Tryd.prog w1 = .ok (.func (.func F) #[] #[]) w1) := Lib.hid fun w1 h1 => by
    rw [hF]; exact act_look h1 hx
  have HCf : Hid (∀ args w1, (callFunc F args).run Tryd.prog w1 = .ok (.enter F args) w1) := Lib.hid fun args w1 => by rw [hF]; exact fn_enter x.op args w1
  have HOc : Hid (K = 2 → c2 = c) := Lib.hid (by have := exec_flt x c A; rw [← hO] at this; exact this)
  rw [← hO]
  have HPC := Lib.hid hPc
  have HK := Lib.hid hk6
  have HW := Lib.hid hwa
  clear hk6 hwa hP hpl hph hPc hPl hE hD hS hcp hs ha hc ht hxx hx hNX hF hO
  go_enter Tryd.func15, Tryd.ntmps15
  go_upto_region 1 with (fail)
  rw [← HW.out, ← HK.out]
  clear HW HK
  go_wp2_with fail
  refine (HFt.out _ T0.out.sp).mono ?_; rintro r w1 ⟨rfl, q1⟩
  have T1 := Lib.hid (T0.out.below q1)
  clear q1 T0 HFt cpc
  go_wp2_with fail
  refine (HDe.out _ T1.out.low).mono ?_; rintro r w2 ⟨rfl, q2⟩
  have T2 := Lib.hid (T1.out.below q2)
  clear q2 T1 HDe
  obtain ⟨wi, hwi⟩ : ∃ wi, wi = w2.alloc (.cells #[.int .u8 x.op, .int .u8 (x.d : Int), .int .u8 (x.a : Int), .int .u8 (x.b : Int), .int .u32 x.im] 58) := ⟨_, rfl⟩
  obtain ⟨k9, hk9⟩ : ∃ k9, k9 = w2.heap.size := ⟨_, rfl⟩
  have T3 : Hid (Si w p b e n g k6 k9 c x A wi) := Lib.hid (by
    rw [hwi, hk9]
    exact ⟨T2.out.below ((Below.refl _ _).alloc (Nat.le_refl _) _), Blk.new w2 58 (xcs x)⟩)
  clear T2
  have HWI := Lib.hid hwi
  have HK9 := Lib.hid hk9
  clear hwi hk9
  go_upto_region 7 with (fail)
  rw [← HWI.out, ← HK9.out]
  clear HWI HK9
  go_upto_region 9 with (fail)
  have hcb : Blk wi p 47 (rcs c) := T3.out.s.cpu
  have hib := T3.out.i
  refine wp_region_held_drew (S := fun w' => Blk w' p 47 (rcs c) ∧ Blk w' k9 58 (xcs x)) (by kernel_rfl) ⟨hcb.drew, hib.drew⟩ (fun hHeld => ?_)
  refine wpAnyH_take (i := 0) (v := .pointer (some ⟨p, 0, none⟩)) rfl (by kernel_rfl) (by kernel_rfl) (by kernel_rfl) (fun _ _ _ h => h) (Or.inl ⟨by rfl, fun w hSw => by clear hSw; go_simp⟩) (by assumption) ?_
  try simp only [Act.put, List.setIfInBounds_toArray, List.set_cons_zero, List.set_cons_succ, List.getElem_toArray, List.getElem_cons_succ, List.getElem_cons_zero]
  refine wpAnyH_take (i := 1) (v := .pointer (some ⟨p, 0, none⟩)) rfl (by kernel_rfl) (by kernel_rfl) (by kernel_rfl) (fun _ _ _ h => h) (Or.inl ⟨by rfl, fun w hSw => by clear hSw; go_simp⟩) (by assumption) ?_
  try simp only [Act.put, List.setIfInBounds_toArray, List.set_cons_zero, List.set_cons_succ, List.getElem_toArray, List.getElem_cons_succ, List.getElem_cons_zero]
  refine wpAnyH_take (i := 2) (v := .agg (rcs c).toArray) rfl (by kernel_rfl) (by kernel_rfl) (by kernel_rfl) (fun _ _ _ h => h) (yieldsIf_load_mid (by rfl) 47 (.tmp 42) rfl p 0 rfl (rcs c) _ (fun w hw => Blk.range hw.1) Tryd.underlying47 rfl (by rw [rcs_length]; exact info_cpu)) (by assumption) ?_
  try simp only [Act.put, List.setIfInBounds_toArray, List.set_cons_zero, List.set_cons_succ, List.getElem_toArray, List.getElem_cons_succ, List.getElem_cons_zero]
  refine wpAnyH_take (i := 3) (v := .agg (xcs x).toArray) rfl (by kernel_rfl) (by kernel_rfl) (by kernel_rfl) (fun _ _ _ h => h) (yieldsIf_load_mid (by rfl) 58 (.tmp 9) rfl k9 0 rfl (xcs x) _ (fun w hw => Blk.range hw.2) Tryd.underlying58 rfl (by rw [xcs_length]; exact info_insn)) (by assumption) ?_
  try simp only [Act.put, List.setIfInBounds_toArray, List.set_cons_zero, List.set_cons_succ, List.getElem_toArray, List.getElem_cons_succ, List.getElem_cons_zero]
  refine wpAnyH_take (i := 4) (v := .pointer (some ⟨b + 1, 0, none⟩)) rfl (by kernel_rfl) (by kernel_rfl) (by kernel_rfl) (fun _ _ _ h => h) (Or.inl ⟨by rfl, fun w hSw => by clear hSw; go_simp⟩) (by assumption) ?_
  try simp only [Act.put, List.setIfInBounds_toArray, List.set_cons_zero, List.set_cons_succ, List.getElem_toArray, List.getElem_cons_succ, List.getElem_cons_zero]
  refine wpAnyH_take (i := 5) (v := .agg (dcs c x b).toArray) rfl (by kernel_rfl) (by kernel_rfl) (by kernel_rfl) (fun _ _ _ h => h) (yieldsIf_build (by rfl) 70 _ rfl #[(0, .agg (rcs c).toArray), (1, .agg (xcs x).toArray), (2, .pointer (some ⟨b + 1, 0, none⟩))] _ (by simp only [List.map_toArray, List.map_cons, List.map_nil]; rfl) (built_doing c x b)) (by assumption) ?_
  try simp only [Act.put, List.setIfInBounds_toArray, List.set_cons_zero, List.set_cons_succ, List.getElem_toArray, List.getElem_cons_succ, List.getElem_cons_zero]
  refine wpAnyH_ready (rs := [6]) (by kernel_rfl) (by simp) ?_
  refine AllReadyH.cons (o := _) rfl (fun K hK => ?_) AllReadyH.nil
  go_simp
  refine hK.out _ _ ⟨Blk.alloc hHeld.1 _, Blk.alloc hHeld.2 _⟩ (fun hHeld2 => ?_)
  clear hK K
  try simp only [Act.put, List.setIfInBounds_toArray, List.set_cons_zero, List.set_cons_succ, List.getElem_toArray, List.getElem_cons_succ, List.getElem_cons_zero]
  refine wpAnyH_ready (rs := [7]) (by kernel_rfl) (by simp) ?_
  refine AllReadyH.cons (o := _) rfl (fun K hK => ?_) AllReadyH.nil
  rw [if_pos (by rfl)]
  refine wp_store_named 70 _ _ rfl wi.heap.size (dcs c x b) rfl rfl 70 _ (Blk.drew (Blk.new wi 70 _)) (by rw [dcs_length]; exact info_doing) (by rw [dcs_length]; rfl) (dcs_one c x b) (fun wq bq gq => ?_)
  have hbq : Below wi.heap.size wi wq := ((Below.refl wi.heap.size wi).alloc (Nat.le_refl _) _).drew.grown gq (by simp) (fun j hj => by cases hj; exact Nat.le_refl _)
  obtain ⟨q, hq⟩ : ∃ q, q = wi.heap.size := ⟨_, rfl⟩
  have T4 := Lib.hid (T3.out.below hbq)
  rw [← hq] at bq hbq ⊢
  clear gq
  refine hK.out _ _ ⟨T4.out.s.cpu, T4.out.i⟩ (fun hHeld3 => ?_)
  clear hK K
  try simp only [Act.put, List.setIfInBounds_toArray, List.set_cons_zero, List.set_cons_succ, List.getElem_toArray, List.getElem_cons_succ, List.getElem_cons_zero]
  refine wpAnyH_done (by kernel_rfl) ?_ _
  clear hHeld hHeld2 hHeld3 hcb hib
  have hq0 : w.heap.size ≤ q := by rw [hq]; exact T3.out.s.low.size
  clear hq hbq T3
  have D0 : Do q b e n c x A wq := ⟨bq, T4.out.s.sp⟩
  have c16 := D0.pcc
  rw [HPC.out] at c16
  have f16 := D0.blk.frozen 16
  obtain ⟨D1, G1⟩ := D0.setPc NX
  have T5 := Lib.hid (T4.out.grown G1 bq hq0)
  have HD1 := Lib.hid D1
  have hnx := HNX.out
  clear D0 D1 G1 bq T4 HNX HPC
  go_upto_region 11 with (fail)
  obtain ⟨wz, hwz⟩ : ∃ wz, wz = World.setCell wq ⟨q, 16, none⟩ (.int .u32 NX) := ⟨_, rfl⟩
  rw [← hwz] at T5 HD1 ⊢
  clear hwz c16 f16 hnx
  have ci : wz.cell? ⟨k9, 0, none⟩ = some (.int .u8 x.op) := by rw [T5.out.i.cell]; rfl
  have hlk := HLk.out _ T5.out.s.act
  have hcf := HCf.out
  go_wp2_with fail
  refine (HA.out _ _ HD1.out).mono ?_
  rintro r w5 ⟨rfl, ⟨c', D5, hc5⟩, dt5⟩
  clear hcf hlk ci HCf HLk HA
  obtain ⟨w6, hw6⟩ : ∃ w6, w6 = w5.alloc (.cells #[.int .u8 K, .int .u32 NU, .int .i64 WY] 30) := ⟨_, rfl⟩
  obtain ⟨k11, hk11⟩ : ∃ k11, k11 = w5.heap.size := ⟨_, rfl⟩
  have hb6 : Below w5.heap.size w5 w6 := by rw [hw6]; exact (Below.refl _ _).alloc (Nat.le_refl _) _
  have hr6 : Blk w5 k6 30 [.int .u8 0, .int .u32 0, .int .i64 0] := dt5.hold HD1.out.sp HD1.out.blk T5.out.s.r (by decide) (by decide)
  have hc6 : CAt w5 p c := dt5.hold HD1.out.sp HD1.out.blk T5.out.s.cpu (by decide) (by decide)
  have T6 : Hid (Sk w p b e n k6 k11 c A2 (.int .u8 K) (.int .u32 NU) (.int .i64 WY) w6) := Lib.hid
    ⟨hc6.below hb6, D5.sp.below hb6 D5.sp.hi, hr6.below hb6 hr6.lt, by rw [hw6, hk11]; exact Blk.new w5 30 [.int .u8 K, .int .u32 NU, .int .i64 WY], ((DT.ofBelow T5.out.s.low b e p).inner dt5 hq0).trans (DT.ofBelow hb6 b e p), T5.out.s.lo⟩
  have D6 := D5.below hb6
  have HD6 := Lib.hid D6
  have HW6 := Lib.hid hw6
  have HK11 := Lib.hid hk11
  have hrg := dcs_range D6.blk
  obtain ⟨⟨y0, y1, y2⟩, g0, g1, g2⟩ := T6.out.r11.three
  obtain ⟨⟨z0, z1, z2⟩, f0, f1, f2⟩ := T6.out.r6.three
  have HRg := Lib.hid hrg
  have HF0 := Lib.hid (And.intro f0 (And.intro f1 f2))
  have HZ0 := Lib.hid (And.intro z0 (And.intro z1 z2))
  have HC6 : Hid (K ≠ 2 → c' = c2) := Lib.hid hc5
  clear hc5 D5 D6 dt5 T5 HD1 hb6 hr6 hc6 hw6 hk11 hrg f0 f1 f2 g0 g1 g2 z0 z1 z2
  go_upto_region 12 with (fail)
  rw [← HW6.out, ← HK11.out]
  clear HW6 HK11
  by_cases hK : K = 2
  · have hcc : c2 = c := HOc.out hK
    subst hK
    obtain ⟨z0, z1, z2⟩ := HZ0.out
    obtain ⟨f0, f1, f2⟩ := HF0.out
    have FF := Lib.hid T6.out.stop3
    have HCC := Lib.hid hcc
    clear hcc
    go_wp2
    refine bodyPost_ret (v := .agg #[.int .u8 2, .int .u32 NU, .int .i64 WY]) (res_stop Tryd.results15 _ _ k6 _ _ _ rfl FF.out.r) rfl ⟨rfl, ?_, FF.out.sp, FF.out.dt⟩
    rw [HCC.out]
    exact FF.out.cpu
  · have hKb : (K != 2) = true := by rw [bne_iff_ne]; exact hK
    have hcc : c' = c2 := HC6.out hK
    clear hK
    obtain ⟨z0, z1, z2⟩ := HZ0.out
    obtain ⟨f0, f1, f2⟩ := HF0.out
    have HCC := Lib.hid hcc
    clear hcc
    go_upto_region 13 with (fail)
    clear z0 z1 z2 f0 f1 f2 y0 y1 y2
    go_wp2_with (first
      | (refine wpList_load_mid rfl 47 (.tmp 62) rfl q 0 rfl (rcs c') _ HRg.out Tryd.underlying47 rfl (by rw [rcs_length]; exact info_cpu) ?_)
      | (refine wpList_store_named rfl 47 (.tmp 64) (.tmp 63) rfl p (rcs c') rfl rfl 47 (rcs c) T6.out.cpu (by rw [rcs_length]; exact info_cpu) (by rw [rcs_length, rcs_length]) (rcs_one c') ?_; intro w7 b7 g7; have T7 := Lib.hid (T6.out.cput g7 b7); obtain ⟨⟨y0, y1, y2⟩, g0, g1, g2⟩ := T7.out.r11.three; obtain ⟨⟨z0, z1, z2⟩, f0, f1, f2⟩ := T7.out.r6.three; have FF := Lib.hid T7.out.stop3; clear b7 g7 g0 g1 g2))
    refine bodyPost_ret (v := .agg #[.int .u8 K, .int .u32 NU, .int .i64 WY]) (res_stop Tryd.results15 _ _ k6 _ _ _ rfl FF.out.r) rfl ⟨rfl, ?_, FF.out.sp, FF.out.dt⟩
    rw [← HCC.out]
    exact FF.out.cpu

theorem cstep_any (hc : c.Ok) (w : World) (ht : I.Tabled w) (hcp : CAt w p c) (hs : SpaceAt w b e n A) (ha : ActAt w g) :
    Calls Tryd.prog 15 #[.pointer (some ⟨p, 0, none⟩), .pointer (some ⟨b + 1, 0, none⟩), .map (some g)] w (Sn w p b e n (stepO c A)) := by
  unfold stepO
  by_cases hE : getE A 4 c.pc.toNat 8 = 0
  · rw [if_pos hE]
    by_cases hD : I.Ix.decOk (I.bt (getS A 4 c.pc.toNat 8)) = true
    · rw [if_pos hD]
      exact cstep_act hc w ht hcp hs ha hE hD
    · rw [if_neg hD]
      exact cstep_form hc w ht hcp hs ha hE (by simpa using hD)
  · rw [if_neg hE]
    exact cstep_fetch hc w hcp hs ha (by have := getE_two A 4 c.pc.toNat 8 (by decide); rcases this with h | h; exact absurd h hE; exact h)
end
end Go.Proofs.YtgdbhmlmioihpaaDoor
