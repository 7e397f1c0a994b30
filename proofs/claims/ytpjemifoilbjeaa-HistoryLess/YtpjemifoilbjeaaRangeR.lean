/- A range over a function whose rounds are handed memory: what holds of a round's arguments in the world at hand (R) is told to the loop's body. No function of the program is named here. -/
import Derived.Test.YtpjemifoilbjeaaFoot
import Derived.RangeFuncNested
import Derived.RangeFuncBound
import Derived.RangeFuncCalls
import Derived.RangeFuncLeaves
namespace Go.Proofs.Ytpjemifoilbjeaa
open Go.RowKit

/-- The iterator's word: it makes N rounds, unless one says 'no more'; K: what it may take for granted between two rounds; R k: what it grants of the arguments of round k. -/
def SeqR (P : Program) (gf : Nat) (lb : Array Value) (Kp : World → World → Prop) (K : Nat → World → Prop) (R : Nat → Array Value → World → Prop) (N : Nat) (w : World) : Prop :=
  ∀ (l : Nat) (J Jx : Nat → World → Prop) (W : World), Below w.heap.size w W →
    (∀ k X Y, J k X → Below X.heap.size X Y → J k Y) → (∀ k X Y, Jx k X → Below X.heap.size X Y → Jx k Y) → (∀ k X, J k X → K k X) →
    (∀ k args X, k < N → J k X → R k args X → YieldAt Fence.wide 1 P l args X fun e Y => (e = .returned (.bool true) ∧ J (k + 1) Y ∧ Kp X Y) ∨ (e = .returned (.bool false) ∧ Jx (k + 1) Y)) →
    J 0 W → CallsIn Fence.wide 2 P gf (#[.func (.yield l) #[] #[]] ++ lb) W fun e Y => (∃ v, e = .returned v) ∧ (J N Y ∨ ∃ k, k ≤ N ∧ Jx k Y)
/-- How a round's body is left: it goes on, or it returns. The loop's own two blocks are as they were. -/
def postR (B : Nat) (Kp : World → World → Prop) (I Ix : World → Prop) (W : World) : Exit → Act → World → Prop
  | .normal, _, Y => (Y.heap[B]? = W.heap[B]? ∧ Y.heap[B + 1]? = W.heap[B + 1]?) ∧ Kp W Y ∧ I Y
  | .ret, _, Y => (Y.heap[B]? = W.heap[B]? ∧ Y.heap[B + 1]? = W.heap[B + 1]?) ∧ Ix Y
  | _, _, _ => False
theorem putObj_chg (W : World) (B l : Nat) (o : Obj) (hl : l = B ∨ l = B + 1) : Chg [B, B + 1] W (W.putObj l o) := by
  refine ⟨rfl, rfl, rfl, by simp, fun k _ hn => World.putObj_heap_other (fun e => hn ?_)⟩
  subst e
  rcases hl with h | h <;> simp [h]
theorem range_R {P : Program} {g : Operand} {ps : Array Tmp} {assign body : Code} {Q : Exit → Act → World → Prop} {a : Act} {w : World} {gf : Nat} {lb : Array Value}
    (B : Nat) (hB : w.heap.size = B) (hg : a.eval g = .func (.func gf) #[] lb) (eg : ∀ args w, (callFunc gf args).run P w = .ok (.enter gf args) w)
    {Kp : World → World → Prop} {K : Nat → World → Prop} {R : Nat → Array Value → World → Prop} {N : Nat} (hseq : SeqR P gf lb Kp K R N w)
    (hKt : ∀ {A B C : World}, Kp A B → Kp B C → Kp A C) (hKb : ∀ (W : World) (o : Obj), B + 1 < W.heap.size → Kp W (W.putObj (B + 1) o))
    (I Ix : Nat → World → Prop) (hI : ∀ k X Y, I k X → Chg [B, B + 1] X Y → I k Y) (hIx : ∀ k X Y, Ix k X → Chg [B, B + 1] X Y → Ix k Y) (hIK : ∀ k X, I k X → K k X) (h0 : I 0 w)
    (hps : ∀ k args X, R k args X → args.size = ps.size) (hRc : ∀ k args X o, R k args X → X.heap[B + 1]? = some (.loop o) → ∀ o', R k args (X.putObj (B + 1) o'))
    (a₁ : Array Value → Act)
    (hassign : ∀ (l : Nat) (k : Nat) (args : Array Value) (X : World) (L : Act → World → Prop), R k args X → L (a₁ args) X →
      assign.wpIn (Fence.wide.inRound l) 1 P (Exit.then L (fun _ _ _ => False)) { tmps := (ps.zip args).foldl (fun t (p, v) => t.setIfInBounds p v) a.tmps, defers := [] } X)
    (hbody : ∀ (l : Nat) (k : Nat) (args : Array Value) (X : World), k < N → B + 1 < X.heap.size → I k X → R k args X → body.wpIn (Fence.wide.inRound l) 1 P (postR B Kp (I (k + 1)) (Ix (k + 1)) X) (a₁ args) X)
    (hdone : ∀ X, B + 1 < X.heap.size → I N X → X.heap[B]? = some (.deferred (some [])) → Q .normal { a with defers := { target := .collected B, args := #[] } :: a.defers } X)
    (hstop : ∀ k X, k ≤ N → Ix k X → X.heap[B]? = some (.deferred (some [])) → Code.ret.wpIn Fence.wide 3 P Q { a with defers := { target := .collected B, args := #[] } :: a.defers } X) :
    (Code.rangeFunc g ps assign body).wpIn Fence.wide 3 P Q a w := by
  refine wpIn_rangeFunc (fun fn hfn => ?_)
  let rc : LoopState → Option Code → Loop := fun st pe => { state := st, pending := pe, fn := fn, tmps := a.tmps, params := ps, assign := assign, body := body, defers := B }
  let W1 : World := (w.alloc (.deferred (some []))).alloc (.loop (rc .ready none))
  have hs1 : W1.heap.size = B + 2 := by show ((w.alloc _).alloc _).heap.size = _; simp [hB]
  have hL : W1.heap[B + 1]? = some (.loop (rc .ready none)) := by
    have h := World.alloc_heap_new (w.alloc (.deferred (some []))) (.loop (rc .ready none))
    rw [World.size_alloc, hB] at h; exact h
  have hD : W1.heap[B]? = some (.deferred (some [])) := by
    have h := World.alloc_heap_new w (.deferred (some []))
    rw [hB] at h
    exact (Below.heap_alloc _ _ _ (by simp [hB])).trans h
  have hb1 : Below B w W1 := ((Below.refl _ w).alloc (by omega) _).alloc (by simp; omega) _
  have hI1 : I 0 W1 := hI 0 w W1 h0 (Chg.of (by rw [hB]; exact hb1))
  refine ⟨B + 1, [{ target := .collected B, args := #[] }], W1, { target := .fn (.func gf) lb, args := #[.func (.yield (B + 1)) #[] #[]] }, W1, gf, #[.func (.yield (B + 1)) #[] #[]] ++ lb, W1, ?_, ?_, ?_, ?_, fun _ => by omega, ?_⟩
  · have h := run_enterLoop_outer (P := P) (w := w) fn a.tmps ps assign body
    rw [hB] at h; exact h
  · simp only [resolve, hg]
    simp [go_sem]
  · intro _ _; exact trivial
  · simp [invoke, go_sem, eg]
  · unfold SeqR at hseq
    rw [hB] at hseq
    refine (hseq (B + 1) (fun k X => I k X ∧ X.heap[B + 1]? = some (.loop (rc .ready none)) ∧ X.heap[B]? = some (.deferred (some []))) (fun k X => Ix k X ∧ X.heap[B + 1]? = some (.loop (rc .done (some .ret))) ∧ X.heap[B]? = some (.deferred (some []))) W1 hb1 ?_ ?_ ?_ ?_ ⟨hI1, hL, hD⟩).mono ?_
    · rintro k X Y ⟨h1, h2, h3⟩ hb
      exact ⟨hI k X Y h1 (Chg.of hb), (hb.block _ (Array.getElem?_eq_some_iff.1 h2).1).trans h2, (hb.block _ (Array.getElem?_eq_some_iff.1 h3).1).trans h3⟩
    · rintro k X Y ⟨h1, h2, h3⟩ hb
      exact ⟨hIx k X Y h1 (Chg.of hb), (hb.block _ (Array.getElem?_eq_some_iff.1 h2).1).trans h2, (hb.block _ (Array.getElem?_eq_some_iff.1 h3).1).trans h3⟩
    · exact fun k X h => hIK k X h.1
    · rintro k args X hk ⟨h1, h2, h3⟩ hr
      have hlt : B + 1 < X.heap.size := (Array.getElem?_eq_some_iff.1 h2).1
      refine ⟨fn, _, assign, body, run_yield (P := P) (args := args) h2 (hps k args X hr), roundIn_of_wpIn hfn (hassign _ k args X _ hr ⟨_, run_beginRound h2 rfl, ?_⟩)⟩
      have hp : (X.putObj (B + 1) (.loop { rc .ready none with state := .busy })).heap[B + 1]? = some (.loop { rc .ready none with state := .busy }) := World.putObj_heap_same hlt
      have hq : (X.putObj (B + 1) (.loop { rc .ready none with state := .busy })).heap[B]? = some (.deferred (some [])) := (World.putObj_heap_other (by omega)).trans h3
      refine wpIn_mono (hbody _ k args _ hk (by simpa using hlt) (hI k X _ h1 (putObj_chg X B _ _ (Or.inr rfl))) (hRc k args X _ hr h2 _)) ?_
      rintro e a3 Y hpost
      cases e with
      | normal =>
        obtain ⟨⟨e1, e2⟩, hkp, hi⟩ := hpost
        have hy := e2.trans hp
        have hlt2 : B + 1 < Y.heap.size := (Array.getElem?_eq_some_iff.1 hy).1
        refine ⟨_, _, run_endRound (P := P) none hy, .inl ⟨rfl, ⟨hI _ Y _ hi (putObj_chg Y B _ _ (Or.inr rfl)), World.putObj_heap_same hlt2, (World.putObj_heap_other (by omega)).trans (e1.trans hq)⟩, hKt (hKt (hKb X _ hlt) hkp) (hKb Y _ hlt2)⟩⟩
      | ret =>
        obtain ⟨⟨e1, e2⟩, hi⟩ := hpost
        have hy := e2.trans hp
        have hlt2 : B + 1 < Y.heap.size := (Array.getElem?_eq_some_iff.1 hy).1
        exact ⟨_, _, run_endRound (P := P) (some .ret) hy, .inr ⟨rfl, hIx _ Y _ hi (putObj_chg Y B _ _ (Or.inr rfl)), World.putObj_heap_same hlt2, (World.putObj_heap_other (by omega)).trans (e1.trans hq)⟩⟩
      | exit id => exact hpost.elim
      | goto t => exact hpost.elim
      | panic ch => exact hpost.elim
      | outgrown => exact hpost.elim
    · rintro e X ⟨⟨v, rfl⟩, (⟨h1, h2, h3⟩ | ⟨k, hk, h1, h2, h3⟩)⟩
      · exact ⟨none, _, run_endLoop (P := P) h2 (by simp [rc]), hdone _ (by simpa using (Array.getElem?_eq_some_iff.1 h2).1) (hI _ X _ h1 (putObj_chg X B _ _ (Or.inr rfl))) ((World.putObj_heap_other (by omega)).trans h3)⟩
      · exact ⟨some .ret, _, run_endLoop (P := P) h2 (by simp [rc]), hstop k _ hk (hIx _ X _ h1 (putObj_chg X B _ _ (Or.inr rfl))) ((World.putObj_heap_other (by omega)).trans h3)⟩
end Go.Proofs.Ytpjemifoilbjeaa
