/- ObjFinds, walked. (written by mk_lz.py) -/
import Derived.Test.YtiadggeheiadiaaLY
import Derived.OwnWalk
set_option linter.unusedVariables false
set_option linter.unusedSimpArgs false
namespace Go.Proofs.Ytiadggeheiadiaa
open Go Go.RowKit Oj

theorem infoBool : (Try.prog.info? 4).map (fun i => (i.zero, i.size, i.bytes)) = some (some (.bool false), 1, 1) := by kernel_rfl
/-- The bytes that are marked: none from E on. -/
def MarkAt (w : World) (g N : Nat) (E : Int) : Prop := ∃ bs : List Bool, Blk w g 4 (bs.map Value.bool) ∧ bs.length = N ∧ ∀ t : Nat, E ≤ (t : Int) → t < N → bs.getD t true = false
theorem MarkAt.alloc {w : World} {g N : Nat} {E : Int} (h : MarkAt w g N E) (o : Obj) : MarkAt (w.alloc o) g N E := by
  obtain ⟨bs, h1, h2⟩ := h
  exact ⟨bs, h1.alloc o, h2⟩
theorem MarkAt.lt {w : World} {g N : Nat} {E : Int} (h : MarkAt w g N E) : g < w.heap.size := by
  obtain ⟨bs, h1, h2⟩ := h
  exact h1.lt
theorem MarkAt.cell {w : World} {g N : Nat} {E : Int} (h : MarkAt w g N E) (t : Nat) (h1 : E ≤ (t : Int)) (h2 : t < N) : w.cell? ⟨g, t, none⟩ = some (.bool false) ∧ w.frozen? ⟨g, t, none⟩ = false := by
  obtain ⟨bs, h3, h4, h5⟩ := h
  refine ⟨?_, h3.frozen t⟩
  rw [h3.cell t, List.getElem?_map, List.getElem?_eq_getElem (by omega)]
  have := h5 t h1 h2
  rw [List.getD_eq_getElem?_getD, List.getElem?_eq_getElem (by omega)] at this
  simp only [Option.getD_some] at this
  rw [this]
  rfl
theorem MarkAt.set_ {w : World} {g N : Nat} {E : Int} (h : MarkAt w g N E) (t : Nat) : MarkAt (w.setCell ⟨g, t, none⟩ (.bool true)) g N (max E ((t : Int) + 1)) := by
  obtain ⟨bs, h3, h4, h5⟩ := h
  refine ⟨bs.set t true, ?_, by simpa using h4, fun s h6 h7 => ?_⟩
  · have := h3.set_ t (.bool true)
    rwa [← List.map_set] at this
  · have hne : t ≠ s := by omega
    rw [List.getD_eq_getElem?_getD, List.getElem?_set_ne hne, ← List.getD_eq_getElem?_getD]
    exact h5 s (by omega) h7
theorem MarkAt.more {w : World} {g N : Nat} {E E' : Int} (h : MarkAt w g N E) (hE : E ≤ E') : MarkAt w g N E' := by
  obtain ⟨bs, h3, h4, h5⟩ := h
  exact ⟨bs, h3, h4, fun t h1 h2 => h5 t (by omega) h2⟩
theorem mark_new {w : World} {B g N c : Nat} (h : w.ownsRow B 4 1 (.slice (some ⟨g, 0, none⟩) N c) N (madeCells #[Value.bool false] N).toList) (hc : c = N) : MarkAt w g N 0 := by
  have e : (madeCells #[Value.bool false] N).toList = (List.replicate N false).map Value.bool := by
    rw [List.map_replicate, List.eq_replicate_iff]
    refine ⟨by simp [madeCells], fun b hb => ?_⟩
    simp only [madeCells, Array.toList_map, List.mem_map] at hb
    obtain ⟨x, _, rfl⟩ := hb
    simp [Nat.mod_one]
  rw [e] at h
  rcases h.2 with ⟨h0, _⟩ | ⟨g', cap, cur, hv, _, hg, _, _, hcs, htk⟩
  · cases h0
  · cases hv
    subst hc
    refine ⟨List.replicate c false, ?_, by simp, fun t _ ht => by simp [List.getD_eq_getElem?_getD, ht]⟩
    unfold Blk
    rw [hg]
    have : cur.toList = (List.replicate c false).map Value.bool := by
      rw [← htk, List.take_of_length_le (by rw [Array.length_toList, hcs]; exact Nat.le_refl _)]
    rw [← this, Array.toArray_toList]
/-- What stands while ObjFinds goes on. -/
structure Fi (w0 w : World) (M : ByteArray) (n : Nat) (a : Option Addr) (c g0 : Nat) : Prop where
  low : Below w0.heap.size w0 w
  box : Blk w g0 24 [.string M, .slice a n c]
theorem Fi.below {w0 w w' : World} {M : ByteArray} {n : Nat} {a : Option Addr} {c g0 : Nat} (h : Fi w0 w M n a c g0) (hb : Below w.heap.size w w') : Fi w0 w' M n a c g0 := ⟨below_call h.low hb, h.box.call hb⟩
theorem Fi.set_ {w0 w : World} {M : ByteArray} {n : Nat} {a : Option Addr} {c g0 : Nat} (h : Fi w0 w M n a c g0) {g : Nat} (hg : w0.heap.size ≤ g) (hne : g0 ≠ g) (t : Nat) (u : Value) : Fi w0 (w.setCell ⟨g, t, none⟩ u) M n a c g0 := ⟨below_set h.low hg t u, h.box.far (p := ⟨g, t, none⟩) hne u⟩
/-- In an object that may be the k-th symbol is found at k. -/
theorem find_ok {x : Ob} (h : obOk x = true) {k : Nat} (hk : k < x.syms.length) : findO x (x.syms.getD k Sy.nought).name = some k := by
  unfold findO
  rw [if_pos h]
  unfold obOk at h
  simp only [Bool.and_eq_true] at h
  have hs := allN_at h.2 hk
  simp only [Bool.and_eq_true] at hs
  exact find_at hk rfl fun j hj => of_decide_eq_true (allN_at hs.2 hj)
theorem sym_ok {x : Ob} (h : obOk x = true) {k : Nat} (hk : k < x.syms.length) : symOk (x.syms.getD k Sy.nought) = true := by
  unfold obOk at h
  simp only [Bool.and_eq_true] at h
  have hs := allN_at h.2 hk
  simp only [Bool.and_eq_true] at hs
  exact hs.1
theorem place_ok {s : Sy} (h : symOk s = true) {q : Nat} (hq : q < s.rels.length) : width (s.rels.getD q Rl.nought).kind ≠ 0 ∧ endAt s.rels q ≤ (s.rels.getD q Rl.nought).off ∧ (s.rels.getD q Rl.nought).off + width (s.rels.getD q Rl.nought).kind ≤ s.bytes.length := by
  unfold symOk at h
  simp only [Bool.and_eq_true] at h
  have hr := h.1.2
  unfold relsOk at hr
  simp only [Bool.and_eq_true] at hr
  have h2 := allN_at hr.2 hq
  unfold relOk placeOk at h2
  simp only [Bool.and_eq_true, decide_eq_true_eq] at h2
  exact h2.1
theorem bytes_ok {s : Sy} (h : symOk s = true) : s.bytes.length ≤ 8192 := by
  unfold symOk at h
  simp only [Bool.and_eq_true] at h
  have hz := h.1.1.2
  unfold sizeOk at hz
  have := of_decide_eq_true hz
  omega
theorem width_cases {k : Int} (h : width k ≠ 0) : (k = 1 ∧ width k = 4) ∨ (k = 2 ∧ width k = 2) := by
  unfold width at h ⊢
  by_cases h1 : k = 1
  · left; exact ⟨h1, by rw [if_pos h1]⟩
  · by_cases h2 : k = 2
    · right; exact ⟨h2, by rw [if_neg h1, if_pos h2]⟩
    · rw [if_neg h1, if_neg h2] at h; exact absurd rfl h
theorem names_len {x : Ob} (h : obOk x = true) : (putAll (namesL [x])).length = x.syms.length := by
  have e : namesL [x] = x.syms.map (·.name) := by
    unfold namesL namesO
    simp [h]
  rw [e, putAll_length _ (names_nodup h), List.length_map]

set_option maxHeartbeats 16000000 in
set_option maxRecDepth 100000 in
theorem objfinds_any (v : Value) (x : Ob) (hf : obFits x) (w : World) (hA : ObAt w v x) :
    Calls Try.prog 5 #[v] w fun e w' => e = .returned (.bool true) ∧ Below w.heap.size w w' := by
  obtain ⟨vs, rfl, hS⟩ := hA
  have HAl := Lib.hid (fun W => oalive_any W)
  obtain ⟨iB, hiB, hzB, hsB, hbB⟩ := info_parts infoBool
  have HI0 := Lib.hid (And.intro hiB (And.intro hzB (And.intro hsB hbB)))
  obtain ⟨n, hn⟩ : ∃ n, n = x.syms.length := ⟨_, rfl⟩
  obtain ⟨a, c, hvs, hsy⟩ := hS.get
  rw [← hn] at hvs hsy
  subst hvs
  obtain ⟨M, hM⟩ : ∃ M, M = tx x.name := ⟨_, rfl⟩
  have hO : ∀ W, Below w.heap.size w W → ObAt W (.agg #[.string M, .slice a n c]) x := fun W hq => by rw [hM]; exact ObAt.mk (hS.below hq)
  have HLa := Lib.hid (fun W (hq : Below w.heap.size w W) => by have := large_any _ _ (obs_fit hf) _ (obs_one (hS.below hq)); rw [← hM] at this; exact this)
  have HCh := Lib.hid (fun W (hq : Below w.heap.size w W) => ocheck_any _ x hf W (hO W hq))
  have HNm := Lib.hid (fun W (hq : Below w.heap.size w W) => by have := onames_any _ _ (obs_fit hf) (show 1 ≤ 20 by decide) _ (obs_one (hS.below hq)); rw [← hM] at this; exact this)
  have HFd := Lib.hid (fun (u : ByteArray) W (hq : Below w.heap.size w W) => oFind_any _ x hf u W (hO W hq))
  have HSo : Hid (∀ k, k < n → ∃ b o ra rc na nc, a = some ⟨b, o, none⟩ ∧ b < w.heap.size ∧ LieC w b (o + k * 7) (syCells (x.syms.getD k Sy.nought) (.slice ra (x.syms.getD k Sy.nought).rels.length rc) (.slice na (x.syms.getD k Sy.nought).notes.length nc)) ∧ RelsAt w (.slice ra (x.syms.getD k Sy.nought).rels.length rc) (x.syms.getD k Sy.nought).rels ∧ NotesAt w (.slice na (x.syms.getD k Sy.nought).notes.length nc) (x.syms.getD k Sy.nought).notes) := Lib.hid (fun k hk => hS.cellsOf (by rw [← hn]; exact hk))
  have HF := Lib.hid hf
  have HM := Lib.hid hM
  have HN := Lib.hid hn
  have hni : (n : Int) ≤ 1599289640401 := by have := hf.2.1; omega
  obtain ⟨p, hp⟩ : ∃ p, p = obOk x := ⟨_, rfl⟩
  obtain ⟨ep, hep⟩ : ∃ ep, ep = okI p := ⟨_, rfl⟩
  rw [← hp, ← hep] at HCh
  have HP := Lib.hid hp
  have HX0 := Lib.hid (Fi.mk (w0 := w) (below_new1 w (.cells #[.string M, .slice a n c] 24)) (Blk.new w 24 [.string M, .slice a n c]))
  rw [← hM]
  clear hM hO hsy hf hS hp hn hiB hzB hsB hbB
  go_enter Try.func5, Try.ntmps5
  go_upto_region 1 with (fail)
  obtain ⟨wb, hwb⟩ : ∃ wb, wb = w.alloc (.cells #[.string M, .slice a n c] 24) := ⟨_, rfl⟩
  rw [← hwb] at HX0 ⊢
  clear hwb
  have b0 : wb.cell? ⟨w.heap.size, 0, none⟩ = some (.string M) := HX0.out.box.cell 0
  have b1 : wb.cell? ⟨w.heap.size, 1, none⟩ = some (.slice a n c) := HX0.out.box.cell 1
  go_wp2_with fail
  refine (HLa.out _ HX0.out.low).mono ?_; rintro e w1 ⟨b, rfl, _, q1⟩
  have X1 := Lib.hid (HX0.out.below (below_call (below_new1 _ _) q1))
  clear q1 HX0 HLa b0 b1
  cases b with
  | true =>
    go_wp2_with fail
    refine (HAl.out _).mono ?_; rintro e w2 ⟨rfl, q2⟩
    have X2 := Lib.hid (X1.out.below q2)
    clear q2
    go_wp2_with fail
    go_ret
    exact ⟨rfl, X2.out.low⟩
  | false =>
  have b0 : w1.cell? ⟨w.heap.size, 0, none⟩ = some (.string M) := X1.out.box.cell 0
  have b1 : w1.cell? ⟨w.heap.size, 1, none⟩ = some (.slice a n c) := X1.out.box.cell 1
  go_wp2_with fail
  refine (HCh.out _ X1.out.low).mono ?_; rintro e w2 ⟨rfl, q2⟩
  have X2 := Lib.hid (X1.out.below q2)
  clear q2 X1 b0 b1 HCh
  cases p with
  | false =>
    obtain rfl : ep = 2 := hep
    go_wp2_with fail
    refine (HAl.out _).mono ?_; rintro e w3 ⟨rfl, q3⟩
    have X3 := Lib.hid (X2.out.below q3)
    clear q3
    go_wp2_with fail
    go_ret
    exact ⟨rfl, X3.out.low⟩
  | true =>
  obtain rfl : ep = 0 := hep
  have HFn : Hid (∀ k, k < n → ∀ W, Below w.heap.size w W → Calls Try.prog 15 #[.agg #[.string M, .slice a n c], .string (tx (x.syms.getD k Sy.nought).name)] W fun e w' => e = .returned (.tuple #[.int .i64 (k : Int), .bool true]) ∧ Below W.heap.size W w') := Lib.hid (fun k hk W hW => by
    have h := HFd.out (tx (x.syms.getD k Sy.nought).name) W hW
    rw [by_tx, find_ok HP.out.symm (by rw [← HN.out]; exact hk)] at h
    exact h)
  have HPl : Hid (∀ k, k < n → ∀ q, q < (x.syms.getD k Sy.nought).rels.length → _) := Lib.hid (fun k hk q hq => place_ok (sym_ok HP.out.symm (by rw [← HN.out]; exact hk)) hq)
  have HB8 : Hid (∀ k, k < n → (x.syms.getD k Sy.nought).bytes.length ≤ 8192) := Lib.hid (fun k hk => bytes_ok (sym_ok HP.out.symm (by rw [← HN.out]; exact hk)))
  have HNl : Hid ((putAll (namesL [x])).length = n) := Lib.hid (by rw [names_len HP.out.symm, HN.out])
  have HFs := Lib.hid (show ∀ k, k < n → syFits (x.syms.getD k Sy.nought) from fun k hk => HF.out.2.2 k (by rw [← HN.out]; exact hk))
  clear HFd HP HF
  have b0 : w2.cell? ⟨w.heap.size, 0, none⟩ = some (.string M) := X2.out.box.cell 0
  have b1 : w2.cell? ⟨w.heap.size, 1, none⟩ = some (.slice a n c) := X2.out.box.cell 1
  go_wp2_with fail
  refine (HNm.out _ X2.out.low).mono ?_; rintro e w3 ⟨v3, rfl, h3, q3⟩
  have X3 := Lib.hid (X2.out.below (below_call (below_new1 _ _) q3))
  obtain ⟨a3, c3, hv3⟩ := row_slice h3
  rw [HNl.out] at hv3
  clear q3 h3 X2 b0 b1 HNm
  subst hv3
  have b1 : w3.cell? ⟨w.heap.size, 1, none⟩ = some (.slice a n c) := X3.out.box.cell 1
  go_wp2_with fail
  clear b1
  go_loopw [4] (fun i wr => ∃ k : Nat, (k : Int) ≤ n ∧ i = .int .i64 k ∧ Hid (Fi w wr M n a c w.heap.size)) (fun i _ => n - (intOf i).toNat)
  case atStart => exact ⟨0, by omega, rfl, X3⟩
  case round =>
    clear X3
    obtain ⟨k, hk, rfl, XX⟩ := hrel
    have b1 : wr.cell? ⟨w.heap.size, 1, none⟩ = some (.slice a n c) := XX.out.box.cell 1
    by_cases hlt : k < n
    · have hd : decide (k < n) = true := decide_eq_true hlt
      obtain ⟨b, o, ra, rc, na, nc, rfl, hbl, hL, hr, _⟩ := HSo.out k hlt
      have hfs := HFs.out k hlt
      have hfn := HFn.out k hlt
      have hpl := HPl.out k hlt
      have hb8 := HB8.out k hlt
      obtain ⟨s, hs⟩ : ∃ s, s = x.syms.getD k Sy.nought := ⟨_, rfl⟩
      rw [← hs] at hL hr hfs hfn hpl hb8
      obtain ⟨u0, g0⟩ : ∃ u, u = tx s.name := ⟨_, rfl⟩
      obtain ⟨u4, g4⟩ : ∃ u, u = tx s.bytes := ⟨_, rfl⟩
      obtain ⟨rn, hrn⟩ : ∃ y, y = s.rels.length := ⟨_, rfl⟩
      have hNb : u4.size = s.bytes.length := by rw [g4, tx_size]
      have hNi : (u4.size : Int) ≤ 8192 := by omega
      have hrni : (rn : Int) ≤ 4398046511104 := by have := hfs.2.2.2.2.2.1; omega
      have HLo : Hid (∀ W, Below w.heap.size w W → W.cell? ⟨b, o + k * 7, none⟩ = some (.string u0) ∧ W.cell? ⟨b, o + k * 7 + 4, none⟩ = some (.string u4) ∧ W.cell? ⟨b, o + k * 7 + 5, none⟩ = some (.slice ra rn rc)) := Lib.hid (fun W hW => by
        obtain ⟨c0, c1, c2, c3, c4, c5, c6⟩ := (hL.below hW hbl).sy
        rw [← g0] at c0
        rw [← g4] at c4
        rw [← hrn] at c5
        exact ⟨c0, c4, c5⟩)
      rw [← g0] at hfn
      rw [← hrn, ← hNb] at hpl
      obtain ⟨arr, crr, hrv, hrl⟩ := hr
      injection hrv with e1 e2 e3
      subst e1 e3
      rw [← hrn] at hrl
      have HRl := Lib.hid hrl
      have HFr := Lib.hid (show ∀ q, q < rn → rlFits (s.rels.getD q Rl.nought) from by rw [hrn]; exact hfs.2.2.2.2.2.2.2.1)
      have HPq := Lib.hid hpl
      have HFk : Hid (∀ W, Below wr.heap.size wr W → Calls Try.prog 15 #[.agg #[.string M, .slice (some ⟨b, o, none⟩) n c], .string u0] W fun e w' => e = .returned (.tuple #[.int .i64 (k : Int), .bool true]) ∧ Below wr.heap.size wr w') := Lib.hid (fun W hW => (hfn W (below_call XX.out.low hW)).mono fun e w' ⟨h1, h2⟩ => ⟨h1, below_call hW h2⟩)
      have HCb : Hid (∀ W, Below wr.heap.size wr W → W.cell? ⟨w.heap.size, 0, none⟩ = some (.string M) ∧ W.cell? ⟨w.heap.size, 1, none⟩ = some (.slice (some ⟨b, o, none⟩) n c) ∧ W.cell? ⟨b, o + k * 7, none⟩ = some (.string u0)) := Lib.hid (fun W hW => ⟨(XX.out.below hW).box.cell 0, (XX.out.below hW).box.cell 1, (HLo.out W (below_call XX.out.low hW)).1⟩)
      clear hs hL hfs hfn hpl g0 g4 hrn hNb hb8 e2 hrl
      go_upto_region 9 with (fail)
      refine qy_region (C := fun W => Below wr.heap.size wr W) (by kernel_rfl) (by kernel_rfl) (Below.refl _ _).drew ?_
      refine qy_by rfl (.agg #[.string M, .slice (some ⟨b, o, none⟩) n c]) (fun W hW => by simp [go_sem, (HCb.out W hW).1, (HCb.out W hW).2.1]) ?_
      simp only [Act.put, List.setIfInBounds_toArray, List.set_cons_zero, List.set_cons_succ]
      refine qy_by rfl (.pointer (some ⟨w.heap.size, 1, none⟩)) (fun W _ => by simp [go_sem]) ?_
      simp only [Act.put, List.setIfInBounds_toArray, List.set_cons_zero, List.set_cons_succ]
      refine qy_by rfl (.slice (some ⟨b, o, none⟩) n c) (fun W hW => by simp [go_sem, (HCb.out W hW).2.1]) ?_
      simp only [Act.put, List.setIfInBounds_toArray, List.set_cons_zero, List.set_cons_succ]
      refine qy_by rfl (.int .i64 (k : Int)) (fun W _ => by simp [go_sem]) ?_
      simp only [Act.put, List.setIfInBounds_toArray, List.set_cons_zero, List.set_cons_succ]
      refine qy_by rfl (.pointer (some ⟨b, o + k * 7, none⟩)) (fun W _ => by simp [go_sem, hlt]) ?_
      simp only [Act.put, List.setIfInBounds_toArray, List.set_cons_zero, List.set_cons_succ]
      refine qy_by rfl (.pointer (some ⟨b, o + k * 7, none⟩)) (fun W _ => by simp [go_sem]) ?_
      simp only [Act.put, List.setIfInBounds_toArray, List.set_cons_zero, List.set_cons_succ]
      refine qy_by rfl (.string u0) (fun W hW => by simp [go_sem, (HCb.out W hW).2.2]) ?_
      simp only [Act.put, List.setIfInBounds_toArray, List.set_cons_zero, List.set_cons_succ]
      refine qy_call rfl 15 #[.agg #[.string M, .slice (some ⟨b, o, none⟩) n c], .string u0] (.tuple #[.int .i64 (k : Int), .bool true]) (fun W _ => by simp [go_sem]) (fun W hW => HFk.out W hW) ?_
      simp only [Act.put, List.setIfInBounds_toArray, List.set_cons_zero, List.set_cons_succ]
      refine qy_by rfl (.tuple #[.int .i64 (k : Int), .bool true]) (fun W _ => by simp [go_sem]) ?_
      simp only [Act.put, List.setIfInBounds_toArray, List.set_cons_zero, List.set_cons_succ]
      refine qy_by rfl (.int .i64 (k : Int)) (fun W _ => by simp [go_sem]) ?_
      simp only [Act.put, List.setIfInBounds_toArray, List.set_cons_zero, List.set_cons_succ]
      refine qy_by rfl (.bool true) (fun W _ => by simp [go_sem]) ?_
      simp only [Act.put, List.setIfInBounds_toArray, List.set_cons_zero, List.set_cons_succ]
      refine qy_by rfl (.int .i64 (k : Int)) (fun W _ => by simp [go_sem]) ?_
      simp only [Act.put, List.setIfInBounds_toArray, List.set_cons_zero, List.set_cons_succ]
      refine qy_by rfl (.bool true) (fun W _ => by simp [go_sem]) ?_
      simp only [Act.put, List.setIfInBounds_toArray, List.set_cons_zero, List.set_cons_succ]
      refine wpQuiet_nil ?_
      intro w4 q4
      have X4 := Lib.hid (XX.out.below q4)
      clear q4 HFk HCb XX b1
      have b1 : w4.cell? ⟨w.heap.size, 1, none⟩ = some (.slice (some ⟨b, o, none⟩) n c) := X4.out.box.cell 1
      have c4 := (HLo.out w4 X4.out.low).2.1
      have HBy : Hid (iB.bytes * u4.size ≤ 281474976710656) := Lib.hid (by rw [HI0.out.2.2.2]; omega)
      have HXm : Hid (u4.size ≤ maxLen) := Lib.hid (by unfold maxLen; omega)
      go_wp2_with (at_make; refine wpList_make_full _ rfl _ _ 52 rfl w.heap.size 4 iB (.bool false) 1 Try.underlying52 HI0.out.1 HI0.out.2.1 HI0.out.2.2.1 .i64 .i64 _ _ u4.size rfl rfl rfl rfl HBy.out HXm.out X4.out.low.size ?_)
      intro w5 hown hgrow
      obtain ⟨gm, hgm⟩ : ∃ gm, gm = w4.heap.size := ⟨_, rfl⟩
      rw [← hgm] at hown ⊢
      have K5 := Lib.hid ((mark_new hown rfl))
      have X5 := Lib.hid (X4.out.below (grown_none hgrow))
      have HG : Hid (w.heap.size ≤ gm ∧ w.heap.size ≠ gm) := Lib.hid ⟨by rw [hgm]; exact X4.out.low.size, by have := X4.out.box.lt; omega⟩
      clear hown hgrow hgm b1 c4 HBy HXm X4
      go_wp2_with fail
      go_loopw [8] (fun i wr => ∃ q : Nat, (q : Int) ≤ rn ∧ i = .int .i64 q ∧ Hid (Fi w wr M n (some ⟨b, o, none⟩) c w.heap.size) ∧ Hid (MarkAt wr gm u4.size (endAt s.rels q))) (fun i _ => rn - (intOf i).toNat)
      case atStart => exact ⟨0, by omega, rfl, X5, K5⟩
      case round =>
        clear X5 K5
        obtain ⟨q, hq, rfl, XX, KK⟩ := hrel
        have b1 : wr.cell? ⟨w.heap.size, 1, none⟩ = some (.slice (some ⟨b, o, none⟩) n c) := XX.out.box.cell 1
        have c5 := (HLo.out wr XX.out.low).2.2
        by_cases hqn : q < rn
        · have hd2 : decide (q < rn) = true := decide_eq_true hqn
          obtain ⟨b3, o3, rfl, hbl3, hcl3⟩ := HRl.out (by omega)
          obtain ⟨x3, hx3⟩ : ∃ y, y = s.rels.getD q Rl.nought := ⟨_, rfl⟩
          have hL3 := hcl3 q hqn
          obtain ⟨⟨f1, f2⟩, _⟩ := HFr.out q hqn
          obtain ⟨p1, p2, p3⟩ := HPq.out q hqn
          have HE : Hid (endAt s.rels (q + 1) = x3.off + width x3.kind) := Lib.hid (by show (s.rels.getD q Rl.nought).off + width (s.rels.getD q Rl.nought).kind = _; rw [← hx3])
          rw [← hx3] at hL3 f1 f2 p1 p2 p3
          obtain ⟨e0, e1, e2, e3⟩ := (hL3.below XX.out.low hbl3).rl
          obtain ⟨OF, hOF⟩ : ∃ OF : Nat, x3.off = (OF : Int) := ⟨x3.off.toNat, by omega⟩
          obtain ⟨kk, hkk⟩ : ∃ kk, kk = x3.kind := ⟨_, rfl⟩
          obtain ⟨ad, had⟩ : ∃ y, y = x3.add := ⟨_, rfl⟩
          obtain ⟨U, hU⟩ : ∃ y, y = tx x3.name := ⟨_, rfl⟩
          rw [hOF] at e0 f2 p2 p3 HE
          rw [← hkk] at e1 p1 p3 HE
          rw [← hU] at e2
          rw [← had] at e3
          have hbr3 : b3 < wr.heap.size := Nat.lt_of_lt_of_le hbl3 XX.out.low.size
          have hmk := KK.out.more p2
          have HKK := Lib.hid (hmk.alloc (.cells #[.int .u32 (OF : Int), .int .u8 kk, .string U, .int .u32 ad] 54))
          have HXX := Lib.hid (XX.out.below (below_new1 wr (.cells #[.int .u32 (OF : Int), .int .u8 kk, .string U, .int .u32 ad] 54)))
          have HRR := Lib.hid (Blk.new wr 54 [.int .u32 (OF : Int), .int .u8 kk, .string U, .int .u32 ad])
          have HGR : Hid (wr.heap.size ≠ gm) := Lib.hid (by have := KK.out.lt; omega)
          clear hcl3 hL3 hx3 hOF hkk had hU hmk f1 XX KK
          have hOF8 : (OF : Int) ≤ 8192 := by have := width_le kk; omega
          clear f2
          rcases width_cases p1 with ⟨hk1, hw⟩ | ⟨hk1, hw⟩
          · rw [hw] at p3 HE
            subst hk1
            clear hw p1 p2
            go_wp2_with fail
            clear b1 c5 e0 e1 e2 e3 hbr3
            obtain ⟨gr, hgr⟩ : ∃ gr, gr = wr.heap.size := ⟨_, rfl⟩
            rw [← hgr] at HRR HGR ⊢
            clear hgr
            go_loopw [11] (fun i wr => ∃ J : Nat, (OF : Int) ≤ (J : Int) ∧ (J : Int) ≤ (OF : Int) + 4 ∧ i = .int .i64 (J : Int) ∧ Hid (Fi w wr M n (some ⟨b, o, none⟩) c w.heap.size) ∧ Hid (Blk wr gr 54 [.int .u32 (OF : Int), .int .u8 1, .string U, .int .u32 ad]) ∧ Hid (MarkAt wr gm u4.size (J : Int))) (fun i _ => OF + 4 - (intOf i).toNat)
            case atStart => exact ⟨OF, by omega, by omega, rfl, HXX, HRR, HKK⟩
            case round =>
              clear HXX HRR HKK
              obtain ⟨J, hJ1, hJ2, rfl, XX, RR, KK⟩ := hrel
              have d0 : wr.cell? ⟨gr, 0, none⟩ = some (.int .u32 (OF : Int)) := RR.out.cell 0
              by_cases hJ : (J : Int) < (OF : Int) + 4
              · have hJN : J < u4.size := by omega
                have hge : decide (u4.size ≤ J) = false := decide_eq_false (by omega)
                have hlt2 : decide (J < u4.size) = true := decide_eq_true hJN
                obtain ⟨m0, m1⟩ := KK.out.cell J (Int.le_refl _) hJN
                have hgl := KK.out.lt
                go_wp2_with fail
                clear m0 m1 d0 hge hlt2 hgl
                go_roundw
                case rel => exact ⟨J + 1, by omega, by omega, by go_num, Lib.hid (XX.out.set_ HG.out.1 HG.out.2 J _), Lib.hid (RR.out.far (p := ⟨gm, J, none⟩) HGR.out _), Lib.hid ((KK.out.set_ J).more (by omega))⟩
                case measure => simp [intOf]; omega
              · have hJ3 : (OF : Int) + 4 ≤ (J : Int) := by omega
                have HKE : Hid (MarkAt wr gm u4.size (endAt s.rels (q + 1))) := Lib.hid (KK.out.more (by rw [HE.out]; omega))
                have hJd : decide ((J : Int) < (OF : Int) + 4) = false := decide_eq_false (by omega)
                clear hJ hJ2 hJ3 hJ1 p3
                go_wp2_with fail
                clear d0
                go_roundw
                case rel => exact ⟨q + 1, by omega, by go_num, XX, HKE⟩
                case measure => simp [intOf]; omega
          · rw [hw] at p3 HE
            subst hk1
            clear hw p1 p2
            go_wp2_with fail
            clear b1 c5 e0 e1 e2 e3 hbr3
            obtain ⟨gr, hgr⟩ : ∃ gr, gr = wr.heap.size := ⟨_, rfl⟩
            rw [← hgr] at HRR HGR ⊢
            clear hgr
            go_loopw [11] (fun i wr => ∃ J : Nat, (OF : Int) ≤ (J : Int) ∧ (J : Int) ≤ (OF : Int) + 2 ∧ i = .int .i64 (J : Int) ∧ Hid (Fi w wr M n (some ⟨b, o, none⟩) c w.heap.size) ∧ Hid (Blk wr gr 54 [.int .u32 (OF : Int), .int .u8 2, .string U, .int .u32 ad]) ∧ Hid (MarkAt wr gm u4.size (J : Int))) (fun i _ => OF + 2 - (intOf i).toNat)
            case atStart => exact ⟨OF, by omega, by omega, rfl, HXX, HRR, HKK⟩
            case round =>
              clear HXX HRR HKK
              obtain ⟨J, hJ1, hJ2, rfl, XX, RR, KK⟩ := hrel
              have d0 : wr.cell? ⟨gr, 0, none⟩ = some (.int .u32 (OF : Int)) := RR.out.cell 0
              by_cases hJ : (J : Int) < (OF : Int) + 2
              · have hJN : J < u4.size := by omega
                have hge : decide (u4.size ≤ J) = false := decide_eq_false (by omega)
                have hlt2 : decide (J < u4.size) = true := decide_eq_true hJN
                obtain ⟨m0, m1⟩ := KK.out.cell J (Int.le_refl _) hJN
                have hgl := KK.out.lt
                go_wp2_with fail
                clear m0 m1 d0 hge hlt2 hgl
                go_roundw
                case rel => exact ⟨J + 1, by omega, by omega, by go_num, Lib.hid (XX.out.set_ HG.out.1 HG.out.2 J _), Lib.hid (RR.out.far (p := ⟨gm, J, none⟩) HGR.out _), Lib.hid ((KK.out.set_ J).more (by omega))⟩
                case measure => simp [intOf]; omega
              · have hJ3 : (OF : Int) + 2 ≤ (J : Int) := by omega
                have HKE : Hid (MarkAt wr gm u4.size (endAt s.rels (q + 1))) := Lib.hid (KK.out.more (by rw [HE.out]; omega))
                have hJd : decide ((J : Int) < (OF : Int) + 2) = false := decide_eq_false (by omega)
                clear hJ hJ2 hJ3 hJ1 p3
                go_wp2_with fail
                clear d0
                go_roundw
                case rel => exact ⟨q + 1, by omega, by go_num, XX, HKE⟩
                case measure => simp [intOf]; omega
        · have hd2 : decide (q < rn) = false := decide_eq_false hqn
          clear hqn
          go_wp2_with fail
          clear b1 c5
          go_roundw
          case rel => exact ⟨k + 1, by omega, by go_num, XX⟩
          case measure => simp [intOf]; omega
    · have hd : decide (k < n) = false := decide_eq_false hlt
      clear hlt
      go_wp2_with fail
      refine (HAl.out _).mono ?_; rintro e w4 ⟨rfl, q4⟩
      have X4 := Lib.hid (XX.out.below q4)
      clear q4 b1
      go_wp2_with fail
      go_ret
      exact ⟨rfl, X4.out.low⟩
end Go.Proofs.Ytiadggeheiadiaa
