/- A range over a function whose assignment makes memory (a loop's variable in a box of its own). No function of the program is named here. -/
import Derived.Test.YtpjemifoilbjeaaKgD
namespace Go.Proofs.Ytpjemifoilbjeaa
open Go.RowKit

theorem range_A {P : Program} {g : Operand} {ps : Array Tmp} {assign body : Code} {Q : Exit → Act → World → Prop} {a : Act} {w : World} {gf : Nat} {lb : Array Value}
    (B : Nat) (hB : w.heap.size = B) (hg : a.eval g = .func (.func gf) #[] lb) (eg : ∀ args w, (callFunc gf args).run P w = .ok (.enter gf args) w)
    {Kp : World → World → Prop} {K : Nat → World → Prop} {R : Nat → Array Value → World → Prop} {N : Nat} (hseq : SeqR P gf lb Kp K R N w)
    (hKt : ∀ {A B C : World}, Kp A B → Kp B C → Kp A C) (hKb : ∀ (W : World) (o : Obj), B + 1 < W.heap.size → Kp W (W.putObj (B + 1) o))
    (I Ix : Nat → World → Prop) (hI : ∀ k X Y, I k X → Chg [B, B + 1] X Y → I k Y) (hIx : ∀ k X Y, Ix k X → Chg [B, B + 1] X Y → Ix k Y) (hIK : ∀ k X, I k X → K k X) (h0 : I 0 w)
    (hps : ∀ k args X, R k args X → args.size = ps.size) 
    (a₁ : Array Value → World → Act) (x₁ : Array Value → World → World) (hx₁ : ∀ k args X, R k args X → Below X.heap.size X (x₁ args X)) (hKa : ∀ k args X, R k args X → B + 1 < X.heap.size → Kp X (x₁ args X))
    (hassign : ∀ (l : Nat) (k : Nat) (args : Array Value) (X : World) (L : Act → World → Prop), R k args X → L (a₁ args X) (x₁ args X) →
      assign.wpIn (Fence.wide.inRound l) 1 P (Exit.then L (fun _ _ _ => False)) { tmps := (ps.zip args).foldl (fun t (p, v) => t.setIfInBounds p v) a.tmps, defers := [] } X)
    (hbody : ∀ (l : Nat) (k : Nat) (args : Array Value) (X Y : World), k < N → B + 1 < X.heap.size → I k X → R k args X → Chg [B, B + 1] (x₁ args X) Y → Y.heap.size = (x₁ args X).heap.size → body.wpIn (Fence.wide.inRound l) 1 P (postR B Kp (I (k + 1)) (Ix (k + 1)) Y) (a₁ args X) Y)
    (hdone : ∀ X, B + 1 < X.heap.size → I N X → X.heap[B]? = some (.deferred (some [])) → Q .normal { a with defers := { target := .collected B, args := #[] } :: a.defers } X)
    (hstop : ∀ k X, k ≤ N → Ix k X → X.heap[B]? = some (.deferred (some [])) → Code.ret.wpIn Fence.wide 3 P Q { a with defers := { target := .collected B, args := #[] } :: a.defers } X) :
    (Code.rangeFunc g ps assign body).wpIn Fence.wide 3 P Q a w := by
  refine wpIn_rangeFunc (fun fn hfn => ?_)
  let rc : LoopState → Option Code → Loop := fun st pe => { state := st, pending := pe, fn := fn, tmps := a.tmps, params := ps, assign := assign, body := body, defers := B }
  let W1 : World := (w.alloc (.deferred (some []))).alloc (.loop (rc .ready none))
  have hs1 : W1.heap.size = B + 2 := by show ((w.alloc _).alloc _).heap.size = _; simp [hB]
  have hL : W1.heap[B + 1]? = some (.loop (rc .ready none)) := by
    have h := World.alloc_heap_new (w.alloc (.deferred (some []))) (.loop (rc .ready none))
    rw [World.size_alloc, hB] at h; exact h
  have hD : W1.heap[B]? = some (.deferred (some [])) := by
    have h := World.alloc_heap_new w (.deferred (some []))
    rw [hB] at h
    exact (Below.heap_alloc _ _ _ (by simp [hB])).trans h
  have hb1 : Below B w W1 := ((Below.refl _ w).alloc (by omega) _).alloc (by simp; omega) _
  have hI1 : I 0 W1 := hI 0 w W1 h0 (Chg.of (by rw [hB]; exact hb1))
  refine ⟨B + 1, [{ target := .collected B, args := #[] }], W1, { target := .fn (.func gf) lb, args := #[.func (.yield (B + 1)) #[] #[]] }, W1, gf, #[.func (.yield (B + 1)) #[] #[]] ++ lb, W1, ?_, ?_, ?_, ?_, fun _ => by omega, ?_⟩
  · have h := run_enterLoop_outer (P := P) (w := w) fn a.tmps ps assign body
    rw [hB] at h; exact h
  · simp only [resolve, hg]
    simp [go_sem]
  · intro _ _; exact trivial
  · simp [invoke, go_sem, eg]
  · unfold SeqR at hseq
    rw [hB] at hseq
    refine (hseq (B + 1) (fun k X => I k X ∧ X.heap[B + 1]? = some (.loop (rc .ready none)) ∧ X.heap[B]? = some (.deferred (some []))) (fun k X => Ix k X ∧ X.heap[B + 1]? = some (.loop (rc .done (some .ret))) ∧ X.heap[B]? = some (.deferred (some []))) W1 hb1 ?_ ?_ ?_ ?_ ⟨hI1, hL, hD⟩).mono ?_
    · rintro k X Y ⟨h1, h2, h3⟩ hb
      exact ⟨hI k X Y h1 (Chg.of hb), (hb.block _ (Array.getElem?_eq_some_iff.1 h2).1).trans h2, (hb.block _ (Array.getElem?_eq_some_iff.1 h3).1).trans h3⟩
    · rintro k X Y ⟨h1, h2, h3⟩ hb
      exact ⟨hIx k X Y h1 (Chg.of hb), (hb.block _ (Array.getElem?_eq_some_iff.1 h2).1).trans h2, (hb.block _ (Array.getElem?_eq_some_iff.1 h3).1).trans h3⟩
    · exact fun k X h => hIK k X h.1
    · rintro k args X hk ⟨h1, h2, h3⟩ hr
      have hlt : B + 1 < X.heap.size := (Array.getElem?_eq_some_iff.1 h2).1
      have hb0 := hx₁ k args X hr
      have h2' := (hb0.block _ hlt).trans h2
      have h3' := (hb0.block _ (by omega)).trans h3
      have hlt' : B + 1 < (x₁ args X).heap.size := Nat.lt_of_lt_of_le hlt hb0.size
      refine ⟨fn, _, assign, body, run_yield (P := P) (args := args) h2 (hps k args X hr), roundIn_of_wpIn hfn (hassign _ k args X _ hr ⟨_, run_beginRound h2' rfl, ?_⟩)⟩
      have hp : ((x₁ args X).putObj (B + 1) (.loop { rc .ready none with state := .busy })).heap[B + 1]? = some (.loop { rc .ready none with state := .busy }) := World.putObj_heap_same hlt'
      have hq : ((x₁ args X).putObj (B + 1) (.loop { rc .ready none with state := .busy })).heap[B]? = some (.deferred (some [])) := (World.putObj_heap_other (by omega)).trans h3'
      refine wpIn_mono (hbody _ k args X _ hk hlt h1 hr (putObj_chg _ B _ _ (Or.inr rfl)) (by simp)) ?_
      rintro e a3 Y hpost
      cases e with
      | normal =>
        obtain ⟨⟨e1, e2⟩, hkp, hi⟩ := hpost
        have hy := e2.trans hp
        have hlt2 : B + 1 < Y.heap.size := (Array.getElem?_eq_some_iff.1 hy).1
        refine ⟨_, _, run_endRound (P := P) none hy, .inl ⟨rfl, ⟨hI _ Y _ hi (putObj_chg Y B _ _ (Or.inr rfl)), World.putObj_heap_same hlt2, (World.putObj_heap_other (by omega)).trans (e1.trans hq)⟩, hKt (hKt (hKt (hKa k args X hr hlt) (hKb (x₁ args X) _ hlt')) hkp) (hKb Y _ hlt2)⟩⟩
      | ret =>
        obtain ⟨⟨e1, e2⟩, hi⟩ := hpost
        have hy := e2.trans hp
        have hlt2 : B + 1 < Y.heap.size := (Array.getElem?_eq_some_iff.1 hy).1
        exact ⟨_, _, run_endRound (P := P) (some .ret) hy, .inr ⟨rfl, hIx _ Y _ hi (putObj_chg Y B _ _ (Or.inr rfl)), World.putObj_heap_same hlt2, (World.putObj_heap_other (by omega)).trans (e1.trans hq)⟩⟩
      | exit id => exact hpost.elim
      | goto t => exact hpost.elim
      | panic ch => exact hpost.elim
      | outgrown => exact hpost.elim
    · rintro e X ⟨⟨v, rfl⟩, (⟨h1, h2, h3⟩ | ⟨k, hk, h1, h2, h3⟩)⟩
      · exact ⟨none, _, run_endLoop (P := P) h2 (by simp [rc]), hdone _ (by simpa using (Array.getElem?_eq_some_iff.1 h2).1) (hI _ X _ h1 (putObj_chg X B _ _ (Or.inr rfl))) ((World.putObj_heap_other (by omega)).trans h3)⟩
      · exact ⟨some .ret, _, run_endLoop (P := P) h2 (by simp [rc]), hstop k _ hk (hIx _ X _ h1 (putObj_chg X B _ _ (Or.inr rfl))) ((World.putObj_heap_other (by omega)).trans h3)⟩
end Go.Proofs.Ytpjemifoilbjeaa
