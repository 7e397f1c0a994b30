/- where of the law's package. -/
import Derived.Test.YtgkabdmeggaphabCFind
namespace Go.Proofs.Ytgkabdmeggaphab
open Go.RowKit
variable {w : World} {l : List Pt} {A : Nat → Sl} {ad : Option Addr} {m c : Nat}

/-- where's answer. -/
def whereN (t : Int) (l : List Pt) (a : Int) : Option (Int × Int) := match findN t l a with
  | none => none
  | some (i, q) => some ((ptAt l i).id, q)
def whereV (x : Option (Int × Int)) : Value := match x with
  | none => .tuple #[.int .i64 0, .int .i64 0, .bool false]
  | some (i, q) => .tuple #[.int .i64 i, .int .i64 q, .bool true]
theorem findN_lt {t : Int} {l : List Pt} {a : Int} {i : Nat} {q : Int} (h : findN t l a = some (i, q)) : i < l.length := by
  unfold findN at h
  split at h
  · cases h
  · split at h
    · cases h
    · rename_i k hk
      split at h
      · cases h
      · cases h
        exact (holdT_lt hk).1
set_option maxRecDepth 100000 in
set_option maxHeartbeats 1000000 in
theorem where_any (h : CArg w l A ad m c) (o t a : Int) (ha : -9223372036854775808 ≤ a ∧ a ≤ 9223372036854775807) : Calls Try.prog 6 #[.agg #[.int .i64 o, .int .i64 t, .slice ad m c], .int .i64 a] w fun e w' => e = .returned (whereV (whereN t l a)) ∧ Below w.heap.size w w' := by
  have hl := h.len
  have hm : m ≤ 9223372036854775807 := by have := h.cap; have := h.room; unfold maxLen at this; omega
  have HB : Hid (Below w.heap.size w (w.alloc (.cells #[.int .i64 o, .int .i64 t, .slice ad m c] 25))) := hid ((Below.refl _ _).alloc (Nat.le_refl _) _)
  have h2 := h.later HB.out
  have HF := find_any h2 o t a ha
  cases hf : findN t l a with
  | none =>
    have HE : Hid (whereN t l a = none) := hid (by unfold whereN; rw [hf])
    rw [hf] at HF
    unfold findV at HF
    simp only at HF
    clear h h2 hf
    go_enter Try.func6, Try.ntmps6
    go_wp2_with (go_at_call 17; refine HF.mono ?_; rintro e w1 ⟨rfl, hb1⟩; have HB1 := hid hb1; clear hb1)
    refine bodyPost_ret (v := .tuple #[.int .i64 0, .int .i64 0, .bool false]) (by simp [results, Try.results6, go_sem]) rfl ⟨by rw [HE.out]; rfl, ?_⟩
    exact HB.out.trans (HB1.out.mono HB.out.size)
  | some x =>
    obtain ⟨i, q⟩ := x
    have hil : i < m := by rw [← hl]; exact findN_lt hf
    have HE : Hid (whereN t l a = some ((ptAt l i).id, q)) := hid (by unfold whereN; rw [hf])
    rw [hf] at HF
    unfold findV at HF
    simp only at HF
    have HW : Hid (∀ X, Below (w.alloc (.cells #[.int .i64 o, .int .i64 t, .slice ad m c] 25)).heap.size (w.alloc (.cells #[.int .i64 o, .int .i64 t, .slice ad m c] 25)) X → X.cell? ⟨w.heap.size, 2, none⟩ = some (.slice ad m c) ∧ ∃ b off, ad = some ⟨b, off, none⟩ ∧ X.cell? ⟨b, off + i * 3 + 1, none⟩ = some (.int .i64 (ptAt l i).id)) := hid (fun X hX => by
      refine ⟨((show Blk _ w.heap.size _ _ from heap_alloc_new w _).later hX).cell 2, ?_⟩
      obtain ⟨b, off, e, -, hc⟩ := (h2.later hX).cells (by omega)
      exact ⟨b, off, e, (hc i hil).2.1⟩)
    have d1 : decide ((i : Int) < 0) = false := by simp
    have d2 : decide ((m : Int) ≤ (i : Int)) = false := by simp; omega
    clear h h2 hf
    generalize (ptAt l i).id = id at *
    go_enter Try.func6, Try.ntmps6
    go_wp2_with (go_at_call 17; refine HF.mono ?_; rintro e w1 ⟨rfl, hb1⟩; have HB1 := hid hb1; obtain ⟨k2, b, off, rfl, k3⟩ := HW.out w1 hb1; clear hb1)
    refine bodyPost_ret (v := .tuple #[.int .i64 id, .int .i64 q, .bool true]) (by simp [results, Try.results6, go_sem]) rfl ⟨by rw [HE.out]; rfl, ?_⟩
    exact HB.out.trans (HB1.out.mono HB.out.size)
end Go.Proofs.Ytgkabdmeggaphab
