/- SpaceNil answers true for every step of a script: no space answers ErrNil, or nothing. No condition. -/
import Derived.Test.YtfickpjecehboaaRows
import Derived.Test.YtfickpjecehboaaK
import Derived.Test.YtfickpjecehboaaOS
import Derived.Test.YtfickpjecehboaaSN
import Derived.ProofKit
import Derived.OpenShut
import Derived.ShutString
import Derived.SizedLaws
set_option linter.unusedVariables false
namespace Go.Proofs.Ytfickpjecehboaa
open Go Go.ChangeShapes Go.WideShapes Go.ChangeAt Go.RowKit
open Go.ChangeMaps (open_string shut_string)

theorem stp_size {H : Type} {ts : List TypeId} {ds : List (DataW H)} (h : (DataW.weightsEach Try.prog ts ds).all (· ≤ reachBytes) = true) {j : Nat} {x : Stp} (ht : ts[j]? = some 34)
    (hd : ds[j]? = some (stpD x)) : x.tx.size ≤ reachBytes := by
  have := List.all_eq_true.1 h _ (DataW.weights_mem_each ht hd x.tx.data.toList.length (by
    simp [DataW.weights, stpD, Try.underlying34, DataW.weightsEach]))
  exact of_decide_eq_true this

set_option maxHeartbeats 4000000 in
set_option maxRecDepth 100000 in
theorem nil_walk (op ad n : Int) (tx : ByteArray) (hF : (Stp.mk op ad n tx).fits) (w : World) :
    Calls Try.prog 6 #[.agg #[.int .i64 op, .int .u32 ad, .int .i64 n, .string tx]] w fun e w' => e = .returned (.bool true) ∧ Below w.heap.size w w' := by
  have hHv := heavy_some [⟨op, ad, n, tx⟩] (w.heap.size + 1) 0 1 ((w.alloc (.cells #[.int .i64 op, .int .u32 ad, .int .i64 n, .string tx] 34)).alloc (.cells #[.int .i64 op, .int .u32 ad, .int .i64 n, .string tx] 34)) (by simp) (by simp) (by
      intro k hk j v hv
      obtain rfl : k = 0 := by simp at hk; exact hk
      have hb : ((w.alloc (.cells #[.int .i64 op, .int .u32 ad, .int .i64 n, .string tx] 34)).alloc (.cells #[.int .i64 op, .int .u32 ad, .int .i64 n, .string tx] 34)).heap[w.heap.size + 1]? = some (.cells #[.int .i64 op, .int .u32 ad, .int .i64 n, .string tx] 34) := heap_alloc_new' _ _ _ (by simp)
      rw [show 0 + 0 * 4 + j = j by omega, Lib.cell_of_heap hb]
      simpa [Stp.cells] using hv) (by
      intro k hk
      obtain rfl : k = 0 := by simp at hk; exact hk
      exact hF)
  have hHv' : Calls Try.prog 7 #[.slice (some ⟨w.heap.size + 1, 0, none⟩) 1 1] ((w.alloc (.cells #[.int .i64 op, .int .u32 ad, .int .i64 n, .string tx] 34)).alloc (.cells #[.int .i64 op, .int .u32 ad, .int .i64 n, .string tx] 34)) fun e w' => e = .returned (.bool (heavyL [⟨op, ad, n, tx⟩])) ∧ w' = ((w.alloc (.cells #[.int .i64 op, .int .u32 ad, .int .i64 n, .string tx] 34)).alloc (.cells #[.int .i64 op, .int .u32 ad, .int .i64 n, .string tx] 34)) := hHv
  have HAl := Lib.hid (alive_any ((w.alloc (.cells #[.int .i64 op, .int .u32 ad, .int .i64 n, .string tx] 34)).alloc (.cells #[.int .i64 op, .int .u32 ad, .int .i64 n, .string tx] 34)))
  have HB : Hid (Below w.heap.size w ((w.alloc (.cells #[.int .i64 op, .int .u32 ad, .int .i64 n, .string tx] 34)).alloc (.cells #[.int .i64 op, .int .u32 ad, .int .i64 n, .string tx] 34))) := Lib.hid (((Below.refl _ _).alloc (Nat.le_refl _) _).alloc (by simp) _)
  clear hHv hF
  generalize heavyL [⟨op, ad, n, tx⟩] = hv at *
  cases hv with
  | true =>
    go_enter Try.func6, Try.ntmps6
    go_wp2_with (first
      | (go_at_call 7; refine hHv'.mono ?_; rintro e w' ⟨rfl, rfl⟩)
      | (go_at_call 8; refine HAl.out.mono ?_; rintro e w' ⟨rfl, hb⟩))
    go_ret
    exact ⟨rfl, HB.out.trans (hb.mono HB.out.size)⟩
  | false =>
    go_enter Try.func6, Try.ntmps6
    go_wp2_with (first
      | (go_at_call 7; refine hHv'.mono ?_; rintro e w' ⟨rfl, rfl⟩)
      | (go_at_call 20; refine (look_nil' _ _ _).mono ?_; rintro e w' ⟨rfl, rfl⟩)
      | (go_at_call 22; refine (read_nil _ _ _).mono ?_; rintro e w' ⟨rfl, rfl⟩)
      | (go_at_call 23; refine (fetch_nil _ _).mono ?_; rintro e w' ⟨rfl, rfl⟩)
      | (go_at_call 13; refine (perm_nil _ _).mono ?_; rintro e w' ⟨rfl, rfl⟩)
      | (go_at_call 21; refine (map_nil _ _ _).mono ?_; rintro e w' ⟨rfl, rfl⟩)
      | (go_at_call 25; refine (unmap_nil _ _).mono ?_; rintro e w' ⟨rfl, rfl⟩)
      | (go_at_call 16; refine (set_nil _ _ _).mono ?_; rintro e w' ⟨rfl, rfl⟩)
      | (go_at_call 17; refine (write_nil _ _ _).mono ?_; rintro e w' ⟨rfl, rfl⟩)
      | (go_at_call 18; refine (pages_nil _).mono ?_; rintro e w' ⟨rfl, rfl⟩)
      | (go_at_call 11; refine (copy_nil _).mono ?_; rintro e w' ⟨rfl, rfl⟩)
      | (go_at_call 8; refine HAl.out.mono ?_; rintro e w' ⟨rfl, hb⟩))
    go_ret
    exact ⟨rfl, HB.out.trans (hb.mono HB.out.size)⟩
theorem nil_any (x : Stp) (hF : x.fits) (w : World) : Calls Try.prog 6 #[.agg x.cells.toArray] w fun e w' => e = .returned (.bool true) ∧ Below w.heap.size w w' := nil_walk x.op x.ad x.n x.tx hF w

set_option maxRecDepth 100000 in
theorem nil_lifted (os : Os) (started : os.Started) (H : Type) (enc : TypeId × Value → H) :
    ReturnsInHanded {} Try.checked os 6 .any (Rows.spaceNilSpec.pre6 enc Try.prog Try.f6 Rows.spaceNilRow.domain false) (Rows.spaceNilSpec.post enc Try.prog Try.f6 false true false false) := by
  refine returnsInHanded_of_change_sized (C := Try.checked) own started (by kernel_rfl) Try.func6
    (ChangeSpec.witness6 (enc := enc) (C := Try.checked) false ⟨#[], #[.agg #[.int .i64 0, .int .u32 0, .int .i64 0, .string ByteArray.empty]], []⟩ 8 (by kernel_rfl) (by kernel_rfl) (by kernel_rfl) (by kernel_rfl)) ?_
  intro W base args ds gs before hval0 hW hcnd hsz0 _
  have hval : ∀ (j : Nat) t v, Try.f6.params[j]? = some t → args[j]? = some v → Value.okWide Try.prog W .any base t v := hval0
  have hsz : (DataW.weightsEach Try.prog (Try.f6.params.toList ++ Rows.spaceNilSpec.plain.varTypes Try.prog) (ds ++ gs)).all (· ≤ reachBytes) = true := hsz0
  have hW' := hW
  obtain ⟨p, q, hA0, hV, rfl, hfz, hnd⟩ := hW
  have hA : DataW.TrodAll enc Try.prog W 0 (fun _ => true) true Try.f6.params.toList args.toList ds p := hA0
  rw [Try.params6] at hA hval hsz
  obtain ⟨v0, vs0, d0, ds0, p0, q0, hargs, rfl, rfl, h0, r0⟩ := trodAll_cons hA
  obtain ⟨rfl, rfl, rfl⟩ := trodAll_nil r0
  obtain rfl : args = #[v0] := by cases args; simp_all
  obtain ⟨rfl, rfl⟩ := trodVars_none hV
  obtain ⟨x, rfl, rfl, rfl, w0⟩ := open_stp (hval 0 34 v0 rfl rfl) h0
  have z0 : x.tx.size ≤ reachBytes := stp_size hsz (j := 0) rfl rfl
  clear hA0 hval0
  simp only [List.append_nil] at hW'
  refine (nil_any x (w0.fits (Nat.le_trans z0 (by decide))) W).mono fun e W' ⟨he, hb⟩ => ?_
  subst he
  exact ⟨_, rfl, law_post hW' rfl rfl rfl Try.underlying4 (fun sp => (trodAll_cons_mk (shut_stp w0) trodAll_mk0)) hb⟩

theorem spaceNil_holds : Rows.SpaceNilSaid :=
  OpenClaim.holds_of_wide 6 Try.f6 rfl rfl rfl rfl rfl rfl rfl ⟨rfl, rfl, rfl, rfl, rfl⟩ rfl rfl rfl rfl rfl (by kernel_rfl) Try.func6 (by kernel_rfl)
    (of_decide_eq_true (by kernel_rfl)) (by unfold Func.isWrapper; first | (rw [if_pos (by decide +kernel)]; kernel_rfl) | (rw [if_neg (by decide +kernel)]; exact ⟨rfl, rfl⟩))
    (fun os started H enc _ => nil_lifted os started H enc)
#print axioms spaceNil_holds
end Go.Proofs.Ytfickpjecehboaa
