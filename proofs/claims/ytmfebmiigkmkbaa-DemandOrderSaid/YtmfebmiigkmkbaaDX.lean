/- The document's Add: a note to a manifest. (written by mk_dx.py) -/
import Derived.Test.YtmfebmiigkmkbaaDW
import Derived.Test.YtmfebmiigkmkbaaDP
set_option linter.unusedVariables false
set_option linter.unusedSimpArgs false
namespace Go.Proofs.Ytmfebmiigkmkbaa
open Go Go.RowKit Oj Dm

/-- A manifest as Go has them: both its slices nil, or with room. -/
def MfWf (v : Value) : Prop := ∀ m vx vp, v = mfV m vx vp → Wf vx ∧ Wf vp
/-- Each row is the one that came, or a call's own. -/
def AddR (w w' : World) (vx vp : Value) (m m' : Mf) (v' : Value) : Prop :=
  ∃ vx' vp', v' = mfV m' vx' vp' ∧ ((vx' = vx ∧ m'.ext = m.ext) ∨ OwnX w' w.heap.size vx' m'.ext) ∧ ((vp' = vp ∧ m'.ports = m.ports) ∨ OwnP w' w.heap.size vp' m'.ports)
theorem mfV_inj {m m' : Mf} {a b c d : Value} (h : mfV m a b = mfV m' c d) : a = c ∧ b = d := by
  unfold mfV at h
  injection h with h
  simp only [Array.mk.injEq, List.cons.injEq] at h
  exact ⟨h.2.1, h.2.2.1⟩
theorem AddR.at {w w' : World} {vx vp : Value} {m m' : Mf} {v' : Value} (h : AddR w w' vx vp m m' v') (hb : Below w.heap.size w w') (hx : XtsAt w vx m.ext) (hp : PtsAt w vp m.ports) : MfAt w' v' m' := by
  obtain ⟨vx', vp', rfl, h1, h2⟩ := h
  refine ⟨vx', vp', rfl, ?_, ?_⟩
  · rcases h1 with ⟨rfl, e⟩ | h1
    · rw [e]; exact hx.below hb
    · exact h1.at
  · rcases h2 with ⟨rfl, e⟩ | h2
    · rw [e]; exact hp.below hb
    · exact h2.at
theorem AddR.own {w w' : World} {B : Nat} {vx vp : Value} {m m' : Mf} {v' : Value} (h : AddR w w' vx vp m m' v') (hb : Below w.heap.size w w') (hB : B ≤ w.heap.size) (hx : OwnX w B vx m.ext) (hp : OwnP w B vp m.ports) : MfOwn w' B v' m' := by
  obtain ⟨vx', vp', rfl, h1, h2⟩ := h
  refine ⟨vx', vp', rfl, ?_, ?_⟩
  · rcases h1 with ⟨rfl, e⟩ | h1
    · rw [e]; exact row_below hx hb
    · exact row_base h1 hB
  · rcases h2 with ⟨rfl, e⟩ | h2
    · rw [e]; exact row_below hp hb
    · exact row_base h2 hB
theorem row_new {w : World} {e : TypeId} {z : Nat} {v : Value} {n : Nat} {xs : List Value} {B g : Nat} {t : TypeId} {cs : List Value} (h : w.ownsRow B e z v n xs) (hb : Blk w g t cs) (hne : t ≠ e) {w' : World} (hg : w.grownBy w' (some g)) : w'.ownsRow B e z v n xs :=
  World.ownsRow.kept h hg (.inr (row_block hb h hne))

set_option maxHeartbeats 16000000 in
set_option maxRecDepth 100000 in
theorem radd_any (vx vp : Value) (m : Mf) (x : Nt) (hx : noteOk x = true) (hfx : ntFits x) (hf : mfFits m) (hl1 : m.ext.length ≤ 1048576) (hl2 : m.ports.length ≤ 1048576) (hWx : Wf vx) (hWp : Wf vp) (w : World) (hX : XtsAt w vx m.ext) (hP : PtsAt w vp m.ports) :
    Calls Try.prog 29 #[mfV m vx vp, ntV x] w fun e w' => ∃ v', e = .returned v' ∧ AddR w w' vx vp m (add m x) v' ∧ Below w.heap.size w w' := by
  obtain ⟨k, n, q⟩ := x
  obtain ⟨⟨f0, f1⟩, ⟨f2, f3⟩, f4, f5⟩ := hfx
  simp only at f0 f1 f2 f3 f4 f5
  have hc := note_cases hx
  simp only at hc
  have HXt := Lib.hid (fun W (hq : Below w.heap.size w W) => rextent_any vx m.ext hl1 hWx n q f2 f3 f4 f5 W (hX.below hq) hf.2.2.2.1)
  have HPt := Lib.hid (fun W (hq : Below w.heap.size w W) => rport_any vp m.ports hl2 hWp n W (hP.below hq))
  obtain ⟨ax, cx, hvx⟩ := slC_slice hX
  obtain ⟨ap, cp, hvp⟩ := slC_slice hP
  obtain ⟨nx, hnx⟩ : ∃ n, n = m.ext.length := ⟨_, rfl⟩
  obtain ⟨np, hnp⟩ : ∃ n, n = m.ports.length := ⟨_, rfl⟩
  obtain ⟨P, hPg⟩ : ∃ P, P = m.pages := ⟨_, rfl⟩
  obtain ⟨C, hC⟩ : ∃ C, C = m.con := ⟨_, rfl⟩
  have g0 : 0 ≤ P := by rw [hPg]; exact hf.1.1
  have g1 : P < 4294967296 := by rw [hPg]; exact hf.1.2
  rw [← hnx] at hvx
  rw [← hnp] at hvp
  unfold mfV ntV
  simp only
  rw [← hPg, ← hC]
  have HPg := Lib.hid hPg
  have HC := Lib.hid hC
  obtain ⟨s, hs⟩ : ∃ s, s = w.heap.size := ⟨_, rfl⟩
  have HSs := Lib.hid hs
  have HB0 := Lib.hid (below_box (below_new2 w (.cells #[.int .u32 P, vx, vp, .bool C] 26) (.cells #[.int .u8 k, .int .u32 n, .int .u32 q] 28)) (.cells #[.int .u32 0, .slice none 0 0, .slice none 0 0, .bool false] 26))
  have HM0 : Hid (Blk (((w.alloc (.cells #[.int .u32 P, vx, vp, .bool C] 26)).alloc (.cells #[.int .u8 k, .int .u32 n, .int .u32 q] 28)).alloc (.cells #[.int .u32 0, .slice none 0 0, .slice none 0 0, .bool false] 26)) w.heap.size 26 [.int .u32 P, vx, vp, .bool C]) := Lib.hid (((Blk.new w 26 _).alloc _).alloc _)
  have HN0 : Hid (Blk (((w.alloc (.cells #[.int .u32 P, vx, vp, .bool C] 26)).alloc (.cells #[.int .u8 k, .int .u32 n, .int .u32 q] 28)).alloc (.cells #[.int .u32 0, .slice none 0 0, .slice none 0 0, .bool false] 26)) (w.heap.size + 1) 28 [.int .u8 k, .int .u32 n, .int .u32 q]) := Lib.hid ((Blk.new2 w _ 28 _).alloc _)
  have HR0 : Hid (Blk (((w.alloc (.cells #[.int .u32 P, vx, vp, .bool C] 26)).alloc (.cells #[.int .u8 k, .int .u32 n, .int .u32 q] 28)).alloc (.cells #[.int .u32 0, .slice none 0 0, .slice none 0 0, .bool false] 26)) (w.heap.size + 2) 26 zM) := Lib.hid (by
    have h := Blk.new ((w.alloc (.cells #[.int .u32 P, vx, vp, .bool C] 26)).alloc (.cells #[.int .u8 k, .int .u32 n, .int .u32 q] 28)) 26 zM
    rwa [show ((w.alloc (.cells #[.int .u32 P, vx, vp, .bool C] 26)).alloc (.cells #[.int .u8 k, .int .u32 n, .int .u32 q] 28)).heap.size = w.heap.size + 2 by simp] at h)
  subst hvx hvp
  clear hX hP hx hf hnx hnp hPg hC hs hl1 hl2 hWx hWp
  rcases hc with ⟨rfl, h1, rfl⟩ | ⟨rfl, h1, h2, h3⟩ | ⟨rfl, h1, h2, rfl⟩ | ⟨rfl, rfl, rfl⟩
  · go_enter Try.func29, Try.ntmps29
    go_upto_region 4 with (fail)
    refine wp_named ?_; intro wa hwa
    rw [← hwa] at HB0 HM0 HN0 HR0
    clear hwa
    have n1 : wa.cell? ⟨w.heap.size + 1, 1, none⟩ = some (.int .u32 n) := HN0.out.cell 1
    have m0 : wa.cell? ⟨w.heap.size, 0, none⟩ = some (.int .u32 P) := HM0.out.cell 0
    have z0 : wa.frozen? ⟨w.heap.size, 0, none⟩ = false := HM0.out.frozen 0
    have zl : w.heap.size < wa.heap.size := HM0.out.lt
    by_cases hle : P < n
    · go_upto_region 9 with (fail)
      refine wp_named ?_; intro wb hwb
      have HBb : Hid (Below w.heap.size w wb) := Lib.hid (by rw [hwb]; exact below_set HB0.out (Nat.le_refl _) 0 _)
      have HMb : Hid (Blk wb w.heap.size 26 [.int .u32 n, .slice ax nx cx, .slice ap np cp, .bool C]) := Lib.hid (by rw [hwb]; exact HM0.out.set_ 0 _)
      have HRb : Hid (Blk wb (w.heap.size + 2) 26 zM) := Lib.hid (by rw [hwb]; exact HR0.out.far (p := ⟨w.heap.size, 0, none⟩) (by simp) _)
      clear hwb n1 m0 z0 zl
      obtain ⟨m0, m1, m2, m3⟩ := HMb.out.four
      obtain ⟨e0, e1, e2, e3⟩ := HRb.out.four
      have f0' := HRb.out.frozen 0
      have f1' := HRb.out.frozen 1
      have f2' := HRb.out.frozen 2
      have f3' := HRb.out.frozen 3
      have hrl := HRb.out.lt
      have hml := HMb.out.lt
      go_wp2_with fail
      refine bodyPost_ret (v := .agg #[.int .u32 n, .slice ax nx cx, .slice ap np cp, .bool C]) (results_cell_row Try.results29 _ _ (w.heap.size + 2) 26 _ (0, 0) _ rfl (HRb.out.put4 _ _ _ _) Try.underlying26 rfl (by kernel_rfl)) rfl ⟨_, rfl, ?_, below_put4 HBb.out (by omega) _ _ _ _⟩
      exact ⟨_, _, by have h1 := HPg.out; have h2 := HC.out; show _ = mfV { m with pages := max m.pages n } _ _; unfold mfV; simp only; rw [← h1, ← h2, show max P n = n by omega], .inl ⟨rfl, rfl⟩, .inl ⟨rfl, rfl⟩⟩
    · have hlt2 : n ≤ P := by omega
      go_upto_region 9 with (fail)
      refine wp_named ?_; intro wb hwb
      have HBb : Hid (Below w.heap.size w wb) := Lib.hid (by rw [hwb]; exact below_set HB0.out (Nat.le_refl _) 0 _)
      have HMb : Hid (Blk wb w.heap.size 26 [.int .u32 P, .slice ax nx cx, .slice ap np cp, .bool C]) := Lib.hid (by rw [hwb]; exact HM0.out.set_ 0 _)
      have HRb : Hid (Blk wb (w.heap.size + 2) 26 zM) := Lib.hid (by rw [hwb]; exact HR0.out.far (p := ⟨w.heap.size, 0, none⟩) (by simp) _)
      clear hwb n1 m0 z0 zl
      obtain ⟨m0, m1, m2, m3⟩ := HMb.out.four
      obtain ⟨e0, e1, e2, e3⟩ := HRb.out.four
      have f0' := HRb.out.frozen 0
      have f1' := HRb.out.frozen 1
      have f2' := HRb.out.frozen 2
      have f3' := HRb.out.frozen 3
      have hrl := HRb.out.lt
      have hml := HMb.out.lt
      go_wp2_with fail
      refine bodyPost_ret (v := .agg #[.int .u32 P, .slice ax nx cx, .slice ap np cp, .bool C]) (results_cell_row Try.results29 _ _ (w.heap.size + 2) 26 _ (0, 0) _ rfl (HRb.out.put4 _ _ _ _) Try.underlying26 rfl (by kernel_rfl)) rfl ⟨_, rfl, ?_, below_put4 HBb.out (by omega) _ _ _ _⟩
      exact ⟨_, _, by have h1 := HPg.out; have h2 := HC.out; show _ = mfV { m with pages := max m.pages n } _ _; unfold mfV; simp only; rw [← h1, ← h2, show max P n = P by omega], .inl ⟨rfl, rfl⟩, .inl ⟨rfl, rfl⟩⟩
  · go_enter Try.func29, Try.ntmps29
    go_upto_region 6 with (fail)
    refine wp_named ?_; intro wa hwa
    rw [← hwa] at HB0 HM0 HN0 HR0
    clear hwa
    have n1 : wa.cell? ⟨w.heap.size + 1, 1, none⟩ = some (.int .u32 n) := HN0.out.cell 1
    have n2 : wa.cell? ⟨w.heap.size + 1, 2, none⟩ = some (.int .u32 q) := HN0.out.cell 2
    have m1 : wa.cell? ⟨w.heap.size, 1, none⟩ = some (.slice ax nx cx) := HM0.out.cell 1
    go_wp2_with fail
    refine (HXt.out _ HB0.out).mono ?_; rintro e w1 ⟨v1, rfl, hO, q1⟩
    have HO1 : Hid (OwnX w1 w.heap.size v1 (insX n q m.ext)) := Lib.hid (row_base hO HB0.out.size)
    have HB1 := Lib.hid (below_call HB0.out q1)
    have HM1 := Lib.hid (HM0.out.call q1)
    have HR1 := Lib.hid (HR0.out.call q1)
    obtain ⟨a1, c1, hv1⟩ := row_sl hO
    obtain ⟨nv, hnv⟩ : ∃ nv, nv = (insX n q m.ext).length := ⟨_, rfl⟩
    rw [← hnv] at hv1
    subst hv1
    clear hnv hO q1 n1 n2 m1
    have m1 : w1.cell? ⟨w.heap.size, 1, none⟩ = some (.slice ax nx cx) := HM1.out.cell 1
    have z1 : w1.frozen? ⟨w.heap.size, 1, none⟩ = false := HM1.out.frozen 1
    have zl : w.heap.size < w1.heap.size := HM1.out.lt
    go_upto_region 9 with (fail)
    refine wp_named ?_; intro wb hwb
    have HBb : Hid (Below w.heap.size w wb) := Lib.hid (by rw [hwb]; exact below_set HB1.out (Nat.le_refl _) 1 _)
    have HMb : Hid (Blk wb w.heap.size 26 [.int .u32 P, .slice a1 nv c1, .slice ap np cp, .bool C]) := Lib.hid (by rw [hwb]; exact HM1.out.set_ 1 _)
    have HRb : Hid (Blk wb (w.heap.size + 2) 26 zM) := Lib.hid (by rw [hwb]; exact HR1.out.far (p := ⟨w.heap.size, 1, none⟩) (by simp) _)
    have HOb : Hid (OwnX wb w.heap.size (.slice a1 nv c1) (insX n q m.ext)) := Lib.hid (by rw [hwb]; exact row_new HO1.out HM1.out (by decide) (grown_set w1 _ 1 _))
    clear hwb m1 z1 zl
    obtain ⟨m0, m1, m2, m3⟩ := HMb.out.four
    obtain ⟨e0, e1, e2, e3⟩ := HRb.out.four
    have f0' := HRb.out.frozen 0
    have f1' := HRb.out.frozen 1
    have f2' := HRb.out.frozen 2
    have f3' := HRb.out.frozen 3
    have hrl := HRb.out.lt
    have hml := HMb.out.lt
    go_wp2_with fail
    refine bodyPost_ret (v := .agg #[.int .u32 P, .slice a1 nv c1, .slice ap np cp, .bool C]) (results_cell_row Try.results29 _ _ (w.heap.size + 2) 26 _ (0, 0) _ rfl (HRb.out.put4 _ _ _ _) Try.underlying26 rfl (by kernel_rfl)) rfl ⟨_, rfl, ?_, below_put4 HBb.out (by omega) _ _ _ _⟩
    exact ⟨_, _, by have h1 := HPg.out; have h2 := HC.out; show _ = mfV { m with ext := insX n q m.ext } _ _; unfold mfV; simp only; rw [← h1, ← h2], .inr (row_new HOb.out HRb.out (by decide) (grown_put4 _ _ _ _ _ _)), .inl ⟨rfl, rfl⟩⟩
  · go_enter Try.func29, Try.ntmps29
    go_upto_region 8 with (fail)
    refine wp_named ?_; intro wa hwa
    rw [← hwa] at HB0 HM0 HN0 HR0
    clear hwa
    have n1 : wa.cell? ⟨w.heap.size + 1, 1, none⟩ = some (.int .u32 n) := HN0.out.cell 1
    have m2 : wa.cell? ⟨w.heap.size, 2, none⟩ = some (.slice ap np cp) := HM0.out.cell 2
    go_wp2_with fail
    refine (HPt.out _ HB0.out).mono ?_; rintro e w1 ⟨v1, rfl, hO, q1⟩
    have HO1 : Hid ((v1 = .slice ap np cp ∧ insP n m.ports = m.ports) ∨ OwnP w1 w.heap.size v1 (insP n m.ports)) := Lib.hid (by
      rcases hO with hO | hO
      · exact .inl hO
      · exact .inr (row_base hO HB0.out.size))
    have HB1 := Lib.hid (below_call HB0.out q1)
    have HM1 := Lib.hid (HM0.out.call q1)
    have HR1 := Lib.hid (HR0.out.call q1)
    obtain ⟨a1, nv, c1, hv1⟩ : ∃ a1 nv c1, v1 = .slice a1 nv c1 := by
      rcases hO with ⟨h, _⟩ | hO
      · exact ⟨_, _, _, h⟩
      · obtain ⟨a1, c1, h⟩ := row_sl hO
        exact ⟨_, _, _, h⟩
    subst hv1
    clear hO q1 n1 m2
    have m2 : w1.cell? ⟨w.heap.size, 2, none⟩ = some (.slice ap np cp) := HM1.out.cell 2
    have z2 : w1.frozen? ⟨w.heap.size, 2, none⟩ = false := HM1.out.frozen 2
    have zl : w.heap.size < w1.heap.size := HM1.out.lt
    go_upto_region 9 with (fail)
    refine wp_named ?_; intro wb hwb
    have HBb : Hid (Below w.heap.size w wb) := Lib.hid (by rw [hwb]; exact below_set HB1.out (Nat.le_refl _) 2 _)
    have HMb : Hid (Blk wb w.heap.size 26 [.int .u32 P, .slice ax nx cx, .slice a1 nv c1, .bool C]) := Lib.hid (by rw [hwb]; exact HM1.out.set_ 2 _)
    have HRb : Hid (Blk wb (w.heap.size + 2) 26 zM) := Lib.hid (by rw [hwb]; exact HR1.out.far (p := ⟨w.heap.size, 2, none⟩) (by simp) _)
    have HOb : Hid ((Value.slice a1 nv c1 = .slice ap np cp ∧ insP n m.ports = m.ports) ∨ OwnP wb w.heap.size (.slice a1 nv c1) (insP n m.ports)) := Lib.hid (by
      rcases HO1.out with hO | hO
      · exact .inl hO
      · exact .inr (by rw [hwb]; exact row_new hO HM1.out (by decide) (grown_set w1 _ 2 _)))
    clear hwb m2 z2 zl
    obtain ⟨m0, m1, m2, m3⟩ := HMb.out.four
    obtain ⟨e0, e1, e2, e3⟩ := HRb.out.four
    have f0' := HRb.out.frozen 0
    have f1' := HRb.out.frozen 1
    have f2' := HRb.out.frozen 2
    have f3' := HRb.out.frozen 3
    have hrl := HRb.out.lt
    have hml := HMb.out.lt
    go_wp2_with fail
    refine bodyPost_ret (v := .agg #[.int .u32 P, .slice ax nx cx, .slice a1 nv c1, .bool C]) (results_cell_row Try.results29 _ _ (w.heap.size + 2) 26 _ (0, 0) _ rfl (HRb.out.put4 _ _ _ _) Try.underlying26 rfl (by kernel_rfl)) rfl ⟨_, rfl, ?_, below_put4 HBb.out (by omega) _ _ _ _⟩
    refine ⟨_, _, by have h1 := HPg.out; have h2 := HC.out; show _ = mfV { m with ports := insP n m.ports } _ _; unfold mfV; simp only; rw [← h1, ← h2], .inl ⟨rfl, rfl⟩, ?_⟩
    rcases HOb.out with hO | hO
    · exact .inl hO
    · exact .inr (row_new hO HRb.out (by decide) (grown_put4 _ _ _ _ _ _))
  · go_enter Try.func29, Try.ntmps29
    go_upto_region 2 with (fail)
    refine wp_named ?_; intro wa hwa
    rw [← hwa] at HB0 HM0 HN0 HR0
    clear hwa
    have m3 : wa.cell? ⟨w.heap.size, 3, none⟩ = some (.bool C) := HM0.out.cell 3
    have z3 : wa.frozen? ⟨w.heap.size, 3, none⟩ = false := HM0.out.frozen 3
    have zl : w.heap.size < wa.heap.size := HM0.out.lt
    go_upto_region 9 with (fail)
    refine wp_named ?_; intro wb hwb
    have HBb : Hid (Below w.heap.size w wb) := Lib.hid (by rw [hwb]; exact below_set HB0.out (Nat.le_refl _) 3 _)
    have HMb : Hid (Blk wb w.heap.size 26 [.int .u32 P, .slice ax nx cx, .slice ap np cp, .bool true]) := Lib.hid (by rw [hwb]; exact HM0.out.set_ 3 _)
    have HRb : Hid (Blk wb (w.heap.size + 2) 26 zM) := Lib.hid (by rw [hwb]; exact HR0.out.far (p := ⟨w.heap.size, 3, none⟩) (by simp) _)
    clear hwb m3 z3 zl
    obtain ⟨m0, m1, m2, m3⟩ := HMb.out.four
    obtain ⟨e0, e1, e2, e3⟩ := HRb.out.four
    have f0' := HRb.out.frozen 0
    have f1' := HRb.out.frozen 1
    have f2' := HRb.out.frozen 2
    have f3' := HRb.out.frozen 3
    have hrl := HRb.out.lt
    have hml := HMb.out.lt
    go_wp2_with fail
    refine bodyPost_ret (v := .agg #[.int .u32 P, .slice ax nx cx, .slice ap np cp, .bool true]) (results_cell_row Try.results29 _ _ (w.heap.size + 2) 26 _ (0, 0) _ rfl (HRb.out.put4 _ _ _ _) Try.underlying26 rfl (by kernel_rfl)) rfl ⟨_, rfl, ?_, below_put4 HBb.out (by omega) _ _ _ _⟩
    exact ⟨_, _, by have h1 := HPg.out; show _ = mfV { m with con := true } _ _; unfold mfV; simp only; rw [← h1], .inl ⟨rfl, rfl⟩, .inl ⟨rfl, rfl⟩⟩
end Go.Proofs.Ytmfebmiigkmkbaa
