/- (*Hash).write, walked. -/
import Derived.Test.YtkomfgoloepekaaDoorF
import Derived.Lib.IndexBytes
set_option linter.unusedVariables false
namespace Go.Proofs.YtkomfgoloepekaaDoor
open Go.RowKit

section
variable {P : Program} {ops : Array Oper} {C : World → Prop} {Q : Act → Prop} {a : Act} {o : Oper} {rest : List Oper}
theorem wanted_plain (h : o.guard = none) (ys : Nat → Option Bool) : Region.wanted o ys = true := by unfold Region.wanted; rw [h]
theorem wpQuiet_by (hgd : o.guard = none) (v : Value) (h : ∀ w, C w → (execOp a.eval o).run P w = .ok (.value v) w) (hk : wpQuiet P ops C Q rest (a.put o.dst v)) : wpQuiet P ops C Q (o :: rest) a :=
  wpQuiet_step fun K hK => by
    rw [if_pos (wanted_plain hgd _)]
    exact ⟨v, fun w hw => by unfold Oper.quietAt; rw [h w hw]; exact ⟨rfl, rfl⟩, hK _ hk⟩
theorem wpQuiet_load (hgd : o.guard = none) (ty : TypeId) (x : Operand) (ho : o.op = .load ty x) (b off : Nat) (hx : a.eval x = .pointer (some ⟨b, off, none⟩)) (cs : List Value) (d : TypeDesc) (hS : ∀ w, C w → w.rangeAt b off cs)
    (hu : P.underlying ty = some d) (hd : d.isRow = true) (hi : (P.info? ty).map (·.size) = some cs.length) (hk : wpQuiet P ops C Q rest (a.put o.dst (.agg cs.toArray))) : wpQuiet P ops C Q (o :: rest) a :=
  wpQuiet_by hgd _ (fun w hw => by
    unfold execOp
    simp only [ho, hx, Instr.loadAt, Instr.sureAddr, Sem.run_bind, Sem.run_pure, Result.andThen_ok, run_loadVar_mid w b off ty cs d (hS w hw) hu hd hi]) hk
theorem wpQuiet_call (hgd : o.guard = none) (f : FuncId) (args : Array Value) (v : Value) (h : ∀ w, C w → (execOp a.eval o).run P w = .ok (.enter f args) w) (hc : ∀ w, C w → Calls P f args w fun e w' => e = .returned v ∧ C w')
    (hk : wpQuiet P ops C Q rest (a.put o.dst v)) : wpQuiet P ops C Q (o :: rest) a :=
  wpQuiet_step fun K hK => by
    rw [if_pos (wanted_plain hgd _)]
    exact ⟨v, fun w hw => by unfold Oper.quietAt; rw [h w hw]; exact ⟨rfl, hc w hw⟩, hK _ hk⟩
end

theorem run_sliceAt_low {P : Program} {T e : TypeId} {n : Nat} (hT : P.underlying T = some (.array n e)) (hi : (P.info? e).map (·.size) = some 1) (g o off : Nat) (ho : off < n) (w : World) :
    (Instr.sliceAt T (.pointer (some ⟨g, o, none⟩)) (some (.int .i64 (off : Int))) none none).run P w = .ok (.slice (some ⟨g, o + off, none⟩) (n - off) (n - off)) w := by
  have hsz : (sizeOf e).run P w = .ok 1 w := by
    cases hq : P.info? e with
    | none => simp [hq] at hi
    | some j =>
      have hs : j.size = 1 := by simpa [hq] using hi
      simp [sizeOf, typeInfo, hq, hs]
  have h1 : (0 : Int) ≤ (off : Int) ∧ (off : Int) ≤ (n : Int) := by omega
  have h2 : ¬ n = off := by omega
  simp [Instr.sliceAt, run_underlying hT, Instr.sureAddr, Instr.sliceBounds, Instr.sliceBound, asIntOf, h1, h2, hsz]
  rw [if_pos (by omega), Addr.add_mid]
theorem nats_extract (u : ByteArray) (k : Nat) : nats (u.extract k u.size) = (nats u).drop k := by
  unfold nats
  rw [Lib.extract_to_end, List.map_drop]
theorem extract_size (u : ByteArray) (k : Nat) : (u.extract k u.size).size = u.size - k := by simp
theorem HashOf.more {w : World} {g : Nat} {m q rest : List Nat} (hr : rest.length = 64) (hrs : ∀ x ∈ rest, x < 256) (hre : rest.take (m.length % 64) = m.drop (64 * (m.length / 64))) (hq : ∀ x ∈ q, x < 256)
    (hlt : m.length % 64 + q.length < 64) (hb : Blk w g 55 (hcells (Sh.state m) (rest.take (m.length % 64) ++ q ++ rest.drop (m.length % 64 + q.length)) (m.length + q.length))) : HashOf w g (m ++ q) := by
  refine ⟨rest.take (m.length % 64) ++ q ++ rest.drop (m.length % 64 + q.length), ?_, ?_, rest_more m q rest hr hre hlt, ?_⟩
  · rw [List.length_append, List.length_append, List.length_take, List.length_drop]; omega
  · intro x hx
    rcases List.mem_append.1 hx with hx | hx
    · rcases List.mem_append.1 hx with hx | hx
      · exact hrs x (List.mem_of_mem_take hx)
      · exact hq x hx
    · exact hrs x (List.mem_of_mem_drop hx)
  · rw [Sh.state_stay m q (by rw [List.length_append]; omega), List.length_append]; exact hb
theorem HashOf.full {w : World} {g : Nat} {m q rest rest' : List Nat} (hr : rest.length = 64) (hrs : ∀ x ∈ rest, x < 256) (hre : rest.take (m.length % 64) = m.drop (64 * (m.length / 64))) (hq : ∀ x ∈ q, x < 256)
    (hlt : m.length % 64 + q.length = 64) (hr' : rest' = rest.take (m.length % 64) ++ q ++ rest.drop (m.length % 64 + q.length)) (hb : Blk w g 55 (hcells (Sh.blockL Sh.keys (Sh.words rest') (Sh.state m)) rest' (m.length + q.length))) : HashOf w g (m ++ q) := by
  rw [rest_full m q rest hr hlt] at hr'
  have hl : (m ++ q).length = 64 * (m.length / 64 + 1) := by rw [List.length_append]; omega
  refine ⟨rest', ?_, ?_, ?_, ?_⟩
  · rw [hr', List.length_append, List.length_take]; omega
  · intro x hx
    rw [hr'] at hx
    rcases List.mem_append.1 hx with hx | hx
    · exact hrs x (List.mem_of_mem_take hx)
    · exact hq x hx
  · rw [hl, Nat.mul_mod_right, Nat.mul_div_cancel_left _ (by decide), List.drop_of_length_le (by omega)]; rfl
  · have h := Sh.state_full m q (rest.take (m.length % 64)) (by rw [hre, List.drop_append_of_le_length (by omega)]) (by rw [List.length_take]; omega) (by rw [List.length_take]; omega)
    rw [h, List.length_append, ← hr']
    exact hb
theorem rangeAt_blk {w : World} {g : Nat} {t : TypeId} {cs : List Value} (h : Blk w g t cs) (a vs b : List Value) (hc : cs = a ++ vs ++ b) : w.rangeAt g a.length vs := fun j v hj => by
  have hlt : j < vs.length := (List.getElem?_eq_some_iff.1 hj).1
  rw [h.cell, hc, List.append_assoc, List.getElem?_append_right (by omega), List.getElem?_append_left (by omega), Nat.add_sub_cancel_left]
  exact hj
theorem there_blk {w : World} {g : Nat} {t : TypeId} {cs : List Value} (h : Blk w g t cs) (o n : Nat) (hn : o + n ≤ cs.length) : w.there g o n := fun j hj =>
  ⟨by rw [h.cell, List.getElem?_eq_getElem (by omega)]; rfl, h.frozen _⟩
theorem infoH : (Tryd.prog.info? 5).map (·.size) = some 1 := infob
set_option maxHeartbeats 1000000 in
set_option maxRecDepth 100000 in
theorem write_any (s : ByteArray) (l : List Nat) (g : Nat) (w : World) (hk : Keyed w) (hg : g ≠ 0) (hh : HashOf w g l) (hs : l.length + s.size ≤ 140737488351232) :
    Calls Tryd.prog 23 #[.pointer (some ⟨g, 0, none⟩), .string s] w fun e w' => e = .returned (.tuple #[]) ∧ HashOf w' g (l ++ nats s) ∧ w.grownBy w' (some g) := by
  have HK := Lib.hid hk
  have HG := Lib.hid hg
  have HH := Lib.hid hh
  have hgw : g < w.heap.size := by obtain ⟨r, _, _, _, hb⟩ := hh; exact hb.lt
  have HGW := Lib.hid hgw
  clear hk hg hh
  go_enter Tryd.func23, Tryd.ntmps23
  go_wp2_with fail
  go_loopw [1] (fun t1 wr => ∃ (p : Nat) (u : ByteArray), p ≤ s.size ∧ t1 = .string u ∧ u.size = s.size - p ∧ Hid (nats u = (nats s).drop p) ∧ Hid (HashOf wr g (l ++ (nats s).take p)) ∧ Hid (w.grownBy wr (some g))) (fun t1 _ => match t1 with | .string u => u.size | _ => 0)
  case atStart => exact ⟨0, s, Nat.zero_le _, rfl, by omega, Lib.hid (by simp), by simpa using HH, Lib.hid (World.grownBy.refl w _)⟩
  case round =>
    obtain ⟨p, u, hp, rfl, hu, HU, HO, HGr⟩ := hrel
    by_cases h0 : p = s.size
    · subst h0
      have hu0 : u.size = 0 := by omega
      have hue : u = ⟨#[]⟩ := by
        obtain ⟨⟨ul⟩⟩ := u
        have : ul.length = 0 := hu0
        rw [List.eq_nil_of_length_eq_zero this]
      subst hue
      go_wp2
      refine bodyPost_end (results_none rfl _ _ _) rfl ⟨rfl, ?_, HGr.out⟩
      have h := HO.out
      rw [List.take_of_length_le (by rw [nats_length]; exact Nat.le_refl _)] at h
      exact h
    · have hun : 0 < u.size := by omega
      have HUs := Lib.hid hu
      obtain ⟨N, hN⟩ : ∃ N, N = l.length + p := ⟨_, rfl⟩
      obtain ⟨m, hm⟩ : ∃ m, m = l ++ (nats s).take p := ⟨_, rfl⟩
      have hml : m.length = N := by rw [hm, hN, List.length_append, List.length_take, nats_length]; omega
      rw [← hm] at HO
      obtain ⟨rest, r1, r2, r3, hblk⟩ := HO.out
      obtain ⟨off, hoff⟩ : ∃ off, off = N % 64 := ⟨_, rfl⟩
      obtain ⟨k, hkd⟩ : ∃ k, k = Nat.min u.size (64 - off) := ⟨_, rfl⟩
      have hk1 : k ≤ u.size := by rw [hkd]; exact Nat.min_le_left _ _
      have hk2 : k ≤ 64 - off := by rw [hkd]; exact Nat.min_le_right _ _
      have hk3 : 0 < k := by rw [hkd]; exact Nat.lt_min.2 ⟨hun, by omega⟩
      rw [hml] at r3 hblk
      rw [← hoff] at r3
      have h8 := Sh.state_length m
      have g72 : wr.cell? ⟨g, 72, none⟩ = some (.int .i64 (N : Int)) := by rw [hblk.cell]; exact hcells_len h8 r1
      have gf : wr.frozen? ⟨g, 72, none⟩ = false := hblk.frozen 72
      have e1 : (N : Int) % 64 = (off : Int) := by omega
      have hsl : ∀ W, (Instr.sliceAt 53 (.pointer (some ⟨g, 8, none⟩)) (some (.int .i64 (off : Int))) none none).run Tryd.prog W = .ok (.slice (some ⟨g, 8 + off, none⟩) (64 - off) (64 - off)) W := by
        intro W; exact run_sliceAt_low Tryd.underlying53 infob g 8 off (by omega) W
      have o1 : (0 : Int) ≤ (off : Int) := by omega
      have o2 : (off : Int) < 64 := by omega
      have o3 : ¬ (64 = off) := by omega
      have N0 : (0 : Int) ≤ (N : Int) := by omega
      have N1 : (N : Int) ≤ 140737488351232 := by omega
      have Hb := Lib.hid hblk
      have HR := Lib.hid (And.intro r1 (And.intro r2 r3))
      have HN := Lib.hid (And.intro hN (And.intro hm (And.intro hml (And.intro hoff hkd))))
      have H8 := Lib.hid h8
      clear hN hm hml hoff hkd hblk r1 r2 r3 h8 HO hu
      go_wp2_with fail
      refine wp_region_quiet_tail 10 (by kernel_rfl) (by kernel_rfl) ?_
      simp only [List.take_succ_cons, List.take_zero, List.drop_succ_cons, List.drop_zero]
      repeat (go_big_quiet_step (fail))
      refine wpQuiet_nil ?_
      intro _ hw'
      obtain ⟨nq, hw''⟩ := hw'
      subst hw''
      obtain ⟨wq, hwq⟩ : ∃ wq, wq = wr.drewN nq := ⟨_, rfl⟩
      have Hbq : Hid (Blk wq g 55 (hcells (Sh.state m) rest N)) := by rw [hwq]; exact Hb
      have HGq : Hid (w.grownBy wq (some g)) := by rw [hwq]; exact Lib.hid (only_drewN HGr.out nq)
      rw [← hwq]
      obtain ⟨q, hq⟩ : ∃ q, q = (nats u).take k := ⟨_, rfl⟩
      have hql : q.length = k := by rw [hq, List.length_take, nats_length]; omega
      obtain ⟨rest', hrest'⟩ : ∃ rest', rest' = rest.take off ++ q ++ rest.drop (off + k) := ⟨_, rfl⟩
      obtain ⟨ws, hws⟩ : ∃ ws, ws = wq.setRow g (hcells (Sh.state m) rest' N).toArray := ⟨_, rfl⟩
      have Hcopy : Hid ((Builtin.copy_ #[33, 9] 3 #[.slice (some ⟨g, 8 + off, none⟩) (64 - off) (64 - off), .string u]).run Tryd.prog wq = .ok (.int .i64 (k : Int)) ws) := by
        have h := run_copy_part (P := Tryd.prog) wq 33 9 3 5 g (8 + off) (64 - off) (64 - off) k u _ 55 Tryd.underlying33 infob Hbq.out HN.out.2.2.2.2 (by rw [hcells_length H8.out HR.out.1]; omega)
        have hp := hcells_part (n := N) H8.out HR.out.1 off q (by rw [hql]; omega)
        rw [hql, ← hrest'] at hp
        rw [← hq, hp, ← hws] at h
        exact Lib.hid h
      have Hbs : Hid (Blk ws g 55 (hcells (Sh.state m) rest' N)) := by rw [hws]; exact Lib.hid (Hbq.out.setRow _)
      have HGs : Hid (w.grownBy ws (some g)) := by rw [hws]; exact Lib.hid (only_setRow HGq.out _)
      have r1' : rest'.length = 64 := by
        have h1 := HR.out.1
        rw [hrest', List.length_append, List.length_append, List.length_take, List.length_drop, hql]; omega
      have g72' : ws.cell? ⟨g, 72, none⟩ = some (.int .i64 (N : Int)) := by rw [Hbs.out.cell]; exact hcells_len H8.out r1'
      have gf' : ws.frozen? ⟨g, 72, none⟩ = false := Hbs.out.frozen 72
      have Hb2 : Hid (Blk (ws.setCell ⟨g, 72, none⟩ (.int .i64 ((N : Int) + (k : Int)))) g 55 (hcells (Sh.state m) rest' (N + k))) := by
        have h := Hbs.out.set_ 72 (.int .i64 ((N + k : Nat) : Int))
        rw [hcells_setLen H8.out r1'] at h
        exact Lib.hid h
      have HG2 : Hid (w.grownBy (ws.setCell ⟨g, 72, none⟩ (.int .i64 ((N : Int) + (k : Int)))) (some g)) := Lib.hid (only_setCell HGs.out (.inl rfl) _)
      have HQ := Lib.hid (And.intro hq (And.intro hql (And.intro hrest' r1')))
      have kk1 : (k : Int) ≤ (u.size : Int) := by omega
      have kk0 : (0 : Int) ≤ (k : Int) := by omega
      clear hwq hws hq hql hrest' r1' g72 gf Hb Hbq HGq Hbs HGs hsl HGr e1
      by_cases hfull : off + k = 64
      · have ht : (((N : Int) + (k : Int)) % 64 == 0) = true := by have := HN.out.2.2.2.1; simp; omega
        go_wp2_with (with_reducible refine Lib.wpList_copy_run _ rfl (.tmp 16) (.tmp 17) 33 9 rfl (.slice (some ⟨g, 8 + off, none⟩) (64 - off) (64 - off)) (.string u) rfl rfl Hcopy.out ?_)
        obtain ⟨wt, hwt⟩ : ∃ wt, wt = ws.setCell ⟨g, 72, none⟩ (.int .i64 ((N : Int) + (k : Int))) := ⟨_, rfl⟩
        rw [← hwt] at Hb2 HG2 ⊢
        clear hwt
        have HK2 : Hid (Keyed wt) := Lib.hid (HK.out.grown HG2.out HG.out)
        obtain ⟨R, hR⟩ : ∃ R, R = u8s rest' := ⟨_, rfl⟩
        have rs : ∀ x ∈ rest', x < 256 := by
          intro x hx
          rw [HQ.out.2.2.1] at hx
          rcases List.mem_append.1 hx with hx | hx
          · rcases List.mem_append.1 hx with hx | hx
            · exact HR.out.2.1 x (List.mem_of_mem_take hx)
            · rw [HQ.out.1] at hx; exact nats_small u x (List.mem_of_mem_take hx)
          · exact HR.out.2.1 x (List.mem_of_mem_drop hx)
        have HA : Hid (∀ w, Keyed w → Calls Tryd.prog 30 #[.agg (u32s (Sh.state m)).toArray, .agg (u8s rest').toArray] w fun e w' => e = .returned (.agg (u32s (Sh.blockL Sh.keys (Sh.words rest') (Sh.state m))).toArray) ∧ Below w.heap.size w w') :=
          Lib.hid (fun w hk => after_any (Sh.state m) rest' (Sh.state_length m) (Sh.state_small m) HQ.out.2.2.2 rs w hk)
        obtain ⟨T, hT⟩ : ∃ T, T = Sh.blockL Sh.keys (Sh.words rest') (Sh.state m) := ⟨_, rfl⟩
        have T8 : T.length = 8 := by rw [hT]; exact Sh.blockL_length _ _ _ H8.out
        rw [← hT] at HA
        have HC0 : ∀ w', Below wt.heap.size wt w' → w'.rangeAt g 0 (u32s (Sh.state m)) := fun w' hb =>
          rangeAt_blk (Hb2.out.below hb Hb2.out.lt) [] (u32s (Sh.state m)) (u8s rest' ++ [.int .i64 ((N + k : Nat) : Int)]) (by unfold hcells; simp [List.append_assoc])
        have HC8 : ∀ w', Below wt.heap.size wt w' → w'.rangeAt g 8 (u8s rest') := fun w' hb => by
          have h := rangeAt_blk (Hb2.out.below hb Hb2.out.lt) (u32s (Sh.state m)) (u8s rest') [.int .i64 ((N + k : Nat) : Int)] rfl
          rw [u32s_length, H8.out] at h
          exact h
        have HK8 : Hid ((Tryd.prog.info? 51).map (·.size) = some (u32s (Sh.state m)).length) := Lib.hid (by rw [info8, u32s_length, H8.out])
        have HK64 : Hid ((Tryd.prog.info? 53).map (·.size) = some (u8s rest').length) := Lib.hid (by rw [info64, u8s_length, HQ.out.2.2.2])
        have HT := Lib.hid hT
        have HT8 := Lib.hid T8
        clear hT T8 rs hR R
        refine wp_region_quiet_tail_in (C := fun w' => Below wt.heap.size wt w') 12 (by kernel_rfl) (by kernel_rfl) ((Below.refl _ _).drew) ?_
        simp only [List.take_succ_cons, List.take_zero, List.drop_succ_cons, List.drop_zero]
        refine wpQuiet_by rfl (.pointer (some ⟨g, 0, none⟩)) (fun w _ => BigFrame.run_move (.tmp 0) rfl w) ?_
        simp only [Act.put, List.setIfInBounds_toArray, List.set_cons_zero, List.set_cons_succ]
        refine wpQuiet_by rfl (.pointer (some ⟨g, 0, none⟩)) (fun w _ => BigFrame.run_move (.tmp 0) rfl w) ?_
        simp only [Act.put, List.setIfInBounds_toArray, List.set_cons_zero, List.set_cons_succ]
        refine wpQuiet_by rfl (.pointer (some ⟨g, 0, none⟩)) (fun w _ => by simp [go_sem]) ?_
        simp only [Act.put, List.setIfInBounds_toArray, List.set_cons_zero, List.set_cons_succ]
        refine wpQuiet_by rfl (.pointer (some ⟨g, 0, none⟩)) (fun w _ => by simp [go_sem]) ?_
        simp only [Act.put, List.setIfInBounds_toArray, List.set_cons_zero, List.set_cons_succ]
        refine wpQuiet_load rfl 51 (.tmp 39) rfl g 0 rfl (u32s (Sh.state m)) _ HC0 Tryd.underlying51 rfl HK8.out ?_
        simp only [Act.put, List.setIfInBounds_toArray, List.set_cons_zero, List.set_cons_succ]
        refine wpQuiet_by rfl (.pointer (some ⟨g, 0, none⟩)) (fun w _ => BigFrame.run_move (.tmp 0) rfl w) ?_
        simp only [Act.put, List.setIfInBounds_toArray, List.set_cons_zero, List.set_cons_succ]
        refine wpQuiet_by rfl (.pointer (some ⟨g, 0, none⟩)) (fun w _ => by simp [go_sem]) ?_
        simp only [Act.put, List.setIfInBounds_toArray, List.set_cons_zero, List.set_cons_succ]
        refine wpQuiet_by rfl (.pointer (some ⟨g, 8, none⟩)) (fun w _ => by simp [go_sem]) ?_
        simp only [Act.put, List.setIfInBounds_toArray, List.set_cons_zero, List.set_cons_succ]
        refine wpQuiet_load rfl 53 (.tmp 43) rfl g 8 rfl (u8s rest') _ HC8 Tryd.underlying53 rfl HK64.out ?_
        simp only [Act.put, List.setIfInBounds_toArray, List.set_cons_zero, List.set_cons_succ]
        refine wpQuiet_call rfl 30 #[.agg (u32s (Sh.state m)).toArray, .agg (u8s rest').toArray] (.agg (u32s T).toArray) (fun w _ => by simp [go_sem]) (fun w hw => (HA.out w (HK2.out.below hw)).mono (fun e w' ⟨h1, h2⟩ => ⟨h1, hw.trans (h2.mono hw.size)⟩)) ?_
        simp only [Act.put, List.setIfInBounds_toArray, List.set_cons_zero, List.set_cons_succ]
        refine wpQuiet_by rfl (.pointer (some ⟨g, 0, none⟩)) (fun w _ => by simp [go_sem]) ?_
        simp only [Act.put, List.setIfInBounds_toArray, List.set_cons_zero, List.set_cons_succ]
        refine wpQuiet_by rfl (.pointer (some ⟨g, 0, none⟩)) (fun w _ => by simp [go_sem]) ?_
        simp only [Act.put, List.setIfInBounds_toArray, List.set_cons_zero, List.set_cons_succ]
        refine wpQuiet_nil ?_
        intro w2 hb2
        have Hb3 := Lib.hid (Hb2.out.below hb2 Hb2.out.lt)
        have HG3 : Hid (w.grownBy w2 (some g)) := Lib.hid (only_below HG2.out hb2)
        refine wpList_store_mid rfl 51 (.tmp 47) (.tmp 45) rfl g 0 (u32s T).toArray rfl rfl ?_ ?_ (all_oneCell_toArray (u32s_one T)) ?_
        · exact there_blk Hb3.out 0 _ (by rw [hcells_length H8.out HQ.out.2.2.2]; simp [u32s, HT8.out])
        · rw [info8]; simp [u32s, HT8.out]
        have Hb4 : Hid (Blk (w2.setCells g 0 (u32s T).toArray.toList) g 55 (hcells T rest' (N + k))) := by
          have h := Blk.setCells (u32s T) _ 0 Hb3.out (by rw [hcells_length H8.out HQ.out.2.2.2]; simp [u32s, HT8.out])
          rw [List.take_zero, List.nil_append, u32s_length, HT8.out, Nat.zero_add, hcells_state H8.out T HT8.out] at h
          exact Lib.hid h
        have HG4 : Hid (w.grownBy (w2.setCells g 0 (u32s T).toArray.toList) (some g)) := Lib.hid (grown_setCells _ _ _ HG3.out)
        clear Hb3 HG3 hb2 Hb2 HG2 HC0 HC8
        go_wp2
        go_roundw
        case rel =>
          have hq := HQ.out
          have hn := HN.out
          have hus := HUs.out
          refine ⟨p + k, by omega, by omega, Lib.hid (by rw [nats_extract, HU.out, List.drop_drop]), ?_⟩
          have e : l ++ (nats s).take (p + k) = m ++ q := by rw [hn.2.1, hq.1, HU.out, List.append_assoc, ← List.take_add]
          rw [e]
          refine Lib.hid (HashOf.full (rest := rest) (rest' := rest') HR.out.1 HR.out.2.1 ?_ ?_ ?_ ?_ ?_)
          · rw [hn.2.2.1, ← hn.2.2.2.1]; exact HR.out.2.2
          · intro x hx; rw [hq.1] at hx; exact nats_small u x (List.mem_of_mem_take hx)
          · rw [hn.2.2.1, ← hn.2.2.2.1, hq.2.1]; exact hfull
          · rw [hn.2.2.1, ← hn.2.2.2.1, hq.2.1]; exact hq.2.2.1
          · rw [hn.2.2.1, hq.2.1, ← HT.out]; exact Hb4.out
        case measure => first | omega | (simp; omega)
      · have ht : (((N : Int) + (k : Int)) % 64 == 0) = false := by have := HN.out.2.2.2.1; simp; omega
        go_wp2_with (with_reducible refine Lib.wpList_copy_run _ rfl (.tmp 16) (.tmp 17) 33 9 rfl (.slice (some ⟨g, 8 + off, none⟩) (64 - off) (64 - off)) (.string u) rfl rfl Hcopy.out ?_)
        go_roundw
        case rel =>
          have hq := HQ.out
          have hn := HN.out
          have hus := HUs.out
          refine ⟨p + k, u.extract k u.size, by omega, rfl, by rw [extract_size]; omega, Lib.hid (by rw [nats_extract, HU.out, List.drop_drop]), ?_, HG2⟩
          have e : l ++ (nats s).take (p + k) = m ++ q := by rw [hn.2.1, hq.1, HU.out, List.append_assoc, ← List.take_add]
          rw [e]
          refine Lib.hid (HashOf.more (rest := rest) HR.out.1 HR.out.2.1 ?_ ?_ ?_ ?_)
          · rw [hn.2.2.1, ← hn.2.2.2.1]; exact HR.out.2.2
          · intro x hx; rw [hq.1] at hx; exact nats_small u x (List.mem_of_mem_take hx)
          · rw [hn.2.2.1, ← hn.2.2.2.1, hq.2.1]; omega
          · rw [hn.2.2.1, ← hn.2.2.2.1, hq.2.1, ← hq.2.2.1]; exact Hb2.out
        case measure => simp; omega
end Go.Proofs.YtkomfgoloepekaaDoor
