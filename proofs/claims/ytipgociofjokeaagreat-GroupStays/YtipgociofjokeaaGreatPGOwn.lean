/- What a call leaves as it was: all but the blocks of a list. A range over a function whose rounds are handed memory: what holds of a round's arguments in the world at hand (R) is told to the loop's body. No function of the program is named here. What the rounds of a loop over a function leave as it was. A range over a function whose assignment makes memory (a loop's variable in a box of its own). No function of the program is named here. -/
import Derived.Test.YtipgociofjokeaaGreatBase
import Derived.RangeFuncNested
import Derived.RangeFuncBound
import Derived.RangeFuncCalls
import Derived.RangeFuncLeaves
namespace Go.Proofs.YtipgociofjokeaaGreat
open Go.RowKit

/-- Behind w' all that was there in w is as it was, but the blocks F. -/
structure Chg (F : List Nat) (w w' : World) : Prop where
  os : w'.os = w.os
  tape : w'.tape = w.tape
  output : w'.output = w.output
  size : w.heap.size ≤ w'.heap.size
  block : ∀ k, k < w.heap.size → k ∉ F → w'.heap[k]? = w.heap[k]?
variable {w w' w'' : World} {F G : List Nat}
theorem Chg.refl (F : List Nat) (w : World) : Chg F w w := ⟨rfl, rfl, rfl, Nat.le_refl _, fun _ _ _ => rfl⟩
theorem Chg.of (h : Below w.heap.size w w') : Chg F w w' := ⟨h.os, h.tape, h.output, h.size, fun k hk _ => h.block k hk⟩
theorem Chg.mono (h : Chg F w w') (hs : ∀ k ∈ F, k ∈ G) : Chg G w w' := ⟨h.os, h.tape, h.output, h.size, fun k hk hn => h.block k hk (fun hm => hn (hs k hm))⟩
/-- One behind the other: what the second may change was in F, or is new. -/
theorem Chg.trans (h : Chg F w w') (h' : Chg G w' w'') (hs : ∀ k ∈ G, k ∈ F ∨ w.heap.size ≤ k) : Chg F w w'' :=
  ⟨h'.os.trans h.os, h'.tape.trans h.tape, h'.output.trans h.output, Nat.le_trans h.size h'.size, fun k hk hn => (h'.block k (Nat.lt_of_lt_of_le hk h.size) (fun hm => (hs k hm).elim hn (by omega))).trans (h.block k hk hn)⟩
theorem Chg.below (h : Chg F w w') {N : Nat} (hk : ∀ k ∈ F, N ≤ k) (hN : N ≤ w.heap.size) : Below N w w' :=
  ⟨h.os, h.tape, h.output, h.size, fun k h1 => h.block k (Nat.lt_of_lt_of_le h1 hN) (fun hm => absurd (hk k hm) (by omega))⟩
theorem Chg.set (h : Chg F w w') {g : Nat} (hg : g ∈ F ∨ w.heap.size ≤ g) (i : Nat) (u : Value) : Chg F w (w'.setCell ⟨g, i, none⟩ u) :=
  ⟨h.os, h.tape, h.output, by simpa [World.setCell] using h.size, fun k hk hn => (Below.heap_setCell _ _ _ _ (fun e => by rcases hg with hg | hg; exact hn (by rw [e]; exact hg); simp only at e; omega)).trans (h.block k hk hn)⟩
theorem Chg.drew (h : Chg F w w') : Chg F w w'.drew := ⟨h.os, h.tape, h.output, h.size, h.block⟩
theorem Chg.cell (h : Chg F w w') {g i : Nat} (hg : g < w.heap.size) (hn : g ∉ F) : w'.cell? ⟨g, i, none⟩ = w.cell? ⟨g, i, none⟩ := by
  have h1 := h.block g hg hn
  simp only [World.cell?, h1]
theorem Row.chg {ad : Option Addr} {l : List Nat} (h : Row w ad l) (hb : Chg F w w') (hn : ∀ b off, ad = some ⟨b, off, none⟩ → l ≠ [] → b ∉ F) : Row w' ad l := by
  refine ⟨h.1, ?_⟩
  rcases h.2 with h | ⟨b, off, e, hs, hc⟩
  · exact Or.inl h
  · by_cases h0 : l = []
    · exact Or.inl h0
    · exact Or.inr ⟨b, off, e, Nat.lt_of_lt_of_le hs hb.size, fun i hi => by rw [hb.cell hs (hn b off e h0)]; exact hc i hi⟩
theorem Part.ok.chg {p : Part} (h : p.ok w) (hb : Chg F w w') (hn : ∀ b off, p.ad = some ⟨b, off, none⟩ → p.l ≠ [] → b ∉ F) : p.ok w' := ⟨h.1, h.2.1, h.2.2.chg hb hn⟩
/-- A block of cells. -/
def Blk (w : World) (B : Nat) (cs : Array Value) (T : TypeId) : Prop := w.heap[B]? = some (.cells cs T (0, 0))
theorem Blk.lt {B : Nat} {cs : Array Value} {T : TypeId} (h : Blk w B cs T) : B < w.heap.size := by
  rcases Nat.lt_or_ge B w.heap.size with hlt | hge
  · exact hlt
  · unfold Blk at h; rw [Array.getElem?_eq_none hge] at h; cases h
theorem Blk.chg {B : Nat} {cs : Array Value} {T : TypeId} (h : Blk w B cs T) (hb : Chg F w w') (hn : B ∉ F) : Blk w' B cs T := (hb.block B h.lt hn).trans h
theorem Blk.later {B : Nat} {cs : Array Value} {T : TypeId} (h : Blk w B cs T) (hb : Below w.heap.size w w') : Blk w' B cs T := (hb.block B h.lt).trans h
theorem Blk.cell {B : Nat} {cs : Array Value} {T : TypeId} (h : Blk w B cs T) (i : Nat) : w.cell? ⟨B, i, none⟩ = cs[i]? := cell_of_row w B i _ _ _ h
theorem Blk.free {B : Nat} {cs : Array Value} {T : TypeId} (h : Blk w B cs T) (i : Nat) : w.frozen? ⟨B, i, none⟩ = false := by
  unfold Blk at h; simp [World.frozen?, h]
theorem Blk.set {B : Nat} {cs : Array Value} {T : TypeId} (h : Blk w B cs T) (i : Nat) (v : Value) : Blk (w.setCell ⟨B, i, none⟩ v) B (cs.setIfInBounds i v) T := by
  unfold Blk at *
  rw [setCell_eq_setRow w B i cs T (0, 0) v h]
  exact setRow_heap w B _ _ T _ h
theorem Blk.other {B C : Nat} {cs : Array Value} {T : TypeId} (h : Blk w B cs T) (hne : B ≠ C) (i : Nat) (v : Value) : Blk (w.setCell ⟨C, i, none⟩ v) B cs T := by
  unfold Blk at *
  rw [Below.heap_setCell _ _ _ _ (by exact hne)]
  exact h
end Go.Proofs.YtipgociofjokeaaGreat
namespace Go.Proofs.YtipgociofjokeaaGreat
open Go.RowKit

/-- The iterator's word: it makes N rounds, unless one says 'no more'; K: what it may take for granted between two rounds; R k: what it grants of the arguments of round k. -/
def SeqR (P : Program) (gf : Nat) (lb : Array Value) (Kp : World → World → Prop) (K : Nat → World → Prop) (R : Nat → Array Value → World → Prop) (N : Nat) (w : World) : Prop :=
  ∀ (l : Nat) (J Jx : Nat → World → Prop) (W : World), Below w.heap.size w W →
    (∀ k X Y, J k X → Below X.heap.size X Y → J k Y) → (∀ k X Y, Jx k X → Below X.heap.size X Y → Jx k Y) → (∀ k X, J k X → K k X) →
    (∀ k args X, k < N → J k X → R k args X → YieldAt Fence.wide 1 P l args X fun e Y => (e = .returned (.bool true) ∧ J (k + 1) Y ∧ Kp X Y) ∨ (e = .returned (.bool false) ∧ Jx (k + 1) Y)) →
    J 0 W → CallsIn Fence.wide 2 P gf (#[.func (.yield l) #[] #[]] ++ lb) W fun e Y => (∃ v, e = .returned v) ∧ (J N Y ∨ ∃ k, k ≤ N ∧ Jx k Y)
/-- How a round's body is left: it goes on, or it returns. The loop's own two blocks are as they were. -/
def postR (B : Nat) (Kp : World → World → Prop) (I Ix : World → Prop) (W : World) : Exit → Act → World → Prop
  | .normal, _, Y => (Y.heap[B]? = W.heap[B]? ∧ Y.heap[B + 1]? = W.heap[B + 1]?) ∧ Kp W Y ∧ I Y
  | .ret, _, Y => (Y.heap[B]? = W.heap[B]? ∧ Y.heap[B + 1]? = W.heap[B + 1]?) ∧ Ix Y
  | _, _, _ => False
theorem putObj_chg (W : World) (B l : Nat) (o : Obj) (hl : l = B ∨ l = B + 1) : Chg [B, B + 1] W (W.putObj l o) := by
  refine ⟨rfl, rfl, rfl, by simp, fun k _ hn => World.putObj_heap_other (fun e => hn ?_)⟩
  subst e
  rcases hl with h | h <;> simp [h]
theorem range_R {P : Program} {g : Operand} {ps : Array Tmp} {assign body : Code} {Q : Exit → Act → World → Prop} {a : Act} {w : World} {gf : Nat} {lb : Array Value}
    (B : Nat) (hB : w.heap.size = B) (hg : a.eval g = .func (.func gf) #[] lb) (eg : ∀ args w, (callFunc gf args).run P w = .ok (.enter gf args) w)
    {Kp : World → World → Prop} {K : Nat → World → Prop} {R : Nat → Array Value → World → Prop} {N : Nat} (hseq : SeqR P gf lb Kp K R N w)
    (hKt : ∀ {A B C : World}, Kp A B → Kp B C → Kp A C) (hKb : ∀ (W : World) (o : Obj), B + 1 < W.heap.size → Kp W (W.putObj (B + 1) o))
    (I Ix : Nat → World → Prop) (hI : ∀ k X Y, I k X → Chg [B, B + 1] X Y → I k Y) (hIx : ∀ k X Y, Ix k X → Chg [B, B + 1] X Y → Ix k Y) (hIK : ∀ k X, I k X → K k X) (h0 : I 0 w)
    (hps : ∀ k args X, R k args X → args.size = ps.size) (hRc : ∀ k args X o, R k args X → X.heap[B + 1]? = some (.loop o) → ∀ o', R k args (X.putObj (B + 1) o'))
    (a₁ : Array Value → Act)
    (hassign : ∀ (l : Nat) (k : Nat) (args : Array Value) (X : World) (L : Act → World → Prop), R k args X → L (a₁ args) X →
      assign.wpIn (Fence.wide.inRound l) 1 P (Exit.then L (fun _ _ _ => False)) { tmps := (ps.zip args).foldl (fun t (p, v) => t.setIfInBounds p v) a.tmps, defers := [] } X)
    (hbody : ∀ (l : Nat) (k : Nat) (args : Array Value) (X : World), k < N → B + 1 < X.heap.size → I k X → R k args X → body.wpIn (Fence.wide.inRound l) 1 P (postR B Kp (I (k + 1)) (Ix (k + 1)) X) (a₁ args) X)
    (hdone : ∀ X, B + 1 < X.heap.size → I N X → X.heap[B]? = some (.deferred (some [])) → Q .normal { a with defers := { target := .collected B, args := #[] } :: a.defers } X)
    (hstop : ∀ k X, k ≤ N → Ix k X → X.heap[B]? = some (.deferred (some [])) → Code.ret.wpIn Fence.wide 3 P Q { a with defers := { target := .collected B, args := #[] } :: a.defers } X) :
    (Code.rangeFunc g ps assign body).wpIn Fence.wide 3 P Q a w := by
  refine wpIn_rangeFunc (fun fn hfn => ?_)
  let rc : LoopState → Option Code → Loop := fun st pe => { state := st, pending := pe, fn := fn, tmps := a.tmps, params := ps, assign := assign, body := body, defers := B }
  let W1 : World := (w.alloc (.deferred (some []))).alloc (.loop (rc .ready none))
  have hs1 : W1.heap.size = B + 2 := by show ((w.alloc _).alloc _).heap.size = _; simp [hB]
  have hL : W1.heap[B + 1]? = some (.loop (rc .ready none)) := by
    have h := World.alloc_heap_new (w.alloc (.deferred (some []))) (.loop (rc .ready none))
    rw [World.size_alloc, hB] at h; exact h
  have hD : W1.heap[B]? = some (.deferred (some [])) := by
    have h := World.alloc_heap_new w (.deferred (some []))
    rw [hB] at h
    exact (Below.heap_alloc _ _ _ (by simp [hB])).trans h
  have hb1 : Below B w W1 := ((Below.refl _ w).alloc (by omega) _).alloc (by simp; omega) _
  have hI1 : I 0 W1 := hI 0 w W1 h0 (Chg.of (by rw [hB]; exact hb1))
  refine ⟨B + 1, [{ target := .collected B, args := #[] }], W1, { target := .fn (.func gf) lb, args := #[.func (.yield (B + 1)) #[] #[]] }, W1, gf, #[.func (.yield (B + 1)) #[] #[]] ++ lb, W1, ?_, ?_, ?_, ?_, fun _ => by omega, ?_⟩
  · have h := run_enterLoop_outer (P := P) (w := w) fn a.tmps ps assign body
    rw [hB] at h; exact h
  · simp only [resolve, hg]
    simp [go_sem]
  · intro _ _; exact trivial
  · simp [invoke, go_sem, eg]
  · unfold SeqR at hseq
    rw [hB] at hseq
    refine (hseq (B + 1) (fun k X => I k X ∧ X.heap[B + 1]? = some (.loop (rc .ready none)) ∧ X.heap[B]? = some (.deferred (some []))) (fun k X => Ix k X ∧ X.heap[B + 1]? = some (.loop (rc .done (some .ret))) ∧ X.heap[B]? = some (.deferred (some []))) W1 hb1 ?_ ?_ ?_ ?_ ⟨hI1, hL, hD⟩).mono ?_
    · rintro k X Y ⟨h1, h2, h3⟩ hb
      exact ⟨hI k X Y h1 (Chg.of hb), (hb.block _ (Array.getElem?_eq_some_iff.1 h2).1).trans h2, (hb.block _ (Array.getElem?_eq_some_iff.1 h3).1).trans h3⟩
    · rintro k X Y ⟨h1, h2, h3⟩ hb
      exact ⟨hIx k X Y h1 (Chg.of hb), (hb.block _ (Array.getElem?_eq_some_iff.1 h2).1).trans h2, (hb.block _ (Array.getElem?_eq_some_iff.1 h3).1).trans h3⟩
    · exact fun k X h => hIK k X h.1
    · rintro k args X hk ⟨h1, h2, h3⟩ hr
      have hlt : B + 1 < X.heap.size := (Array.getElem?_eq_some_iff.1 h2).1
      refine ⟨fn, _, assign, body, run_yield (P := P) (args := args) h2 (hps k args X hr), roundIn_of_wpIn hfn (hassign _ k args X _ hr ⟨_, run_beginRound h2 rfl, ?_⟩)⟩
      have hp : (X.putObj (B + 1) (.loop { rc .ready none with state := .busy })).heap[B + 1]? = some (.loop { rc .ready none with state := .busy }) := World.putObj_heap_same hlt
      have hq : (X.putObj (B + 1) (.loop { rc .ready none with state := .busy })).heap[B]? = some (.deferred (some [])) := (World.putObj_heap_other (by omega)).trans h3
      refine wpIn_mono (hbody _ k args _ hk (by simpa using hlt) (hI k X _ h1 (putObj_chg X B _ _ (Or.inr rfl))) (hRc k args X _ hr h2 _)) ?_
      rintro e a3 Y hpost
      cases e with
      | normal =>
        obtain ⟨⟨e1, e2⟩, hkp, hi⟩ := hpost
        have hy := e2.trans hp
        have hlt2 : B + 1 < Y.heap.size := (Array.getElem?_eq_some_iff.1 hy).1
        refine ⟨_, _, run_endRound (P := P) none hy, .inl ⟨rfl, ⟨hI _ Y _ hi (putObj_chg Y B _ _ (Or.inr rfl)), World.putObj_heap_same hlt2, (World.putObj_heap_other (by omega)).trans (e1.trans hq)⟩, hKt (hKt (hKb X _ hlt) hkp) (hKb Y _ hlt2)⟩⟩
      | ret =>
        obtain ⟨⟨e1, e2⟩, hi⟩ := hpost
        have hy := e2.trans hp
        have hlt2 : B + 1 < Y.heap.size := (Array.getElem?_eq_some_iff.1 hy).1
        exact ⟨_, _, run_endRound (P := P) (some .ret) hy, .inr ⟨rfl, hIx _ Y _ hi (putObj_chg Y B _ _ (Or.inr rfl)), World.putObj_heap_same hlt2, (World.putObj_heap_other (by omega)).trans (e1.trans hq)⟩⟩
      | exit id => exact hpost.elim
      | goto t => exact hpost.elim
      | panic ch => exact hpost.elim
      | outgrown => exact hpost.elim
    · rintro e X ⟨⟨v, rfl⟩, (⟨h1, h2, h3⟩ | ⟨k, hk, h1, h2, h3⟩)⟩
      · exact ⟨none, _, run_endLoop (P := P) h2 (by simp [rc]), hdone _ (by simpa using (Array.getElem?_eq_some_iff.1 h2).1) (hI _ X _ h1 (putObj_chg X B _ _ (Or.inr rfl))) ((World.putObj_heap_other (by omega)).trans h3)⟩
      · exact ⟨some .ret, _, run_endLoop (P := P) h2 (by simp [rc]), hstop k _ hk (hIx _ X _ h1 (putObj_chg X B _ _ (Or.inr rfl))) ((World.putObj_heap_other (by omega)).trans h3)⟩
end Go.Proofs.YtipgociofjokeaaGreat
namespace Go.Proofs.YtipgociofjokeaaGreat
open Go.RowKit

/-- What the rounds of a loop leave: the blocks Gs. -/
def Kg (Gs : List Nat) (X Y : World) : Prop := X.heap.size ≤ Y.heap.size ∧ ∀ g ∈ Gs, Y.heap[g]? = X.heap[g]?
theorem Kg.refl (Gs : List Nat) (X : World) : Kg Gs X X := ⟨Nat.le_refl _, fun _ _ => rfl⟩
theorem Kg.trans {Gs : List Nat} {X Y Z : World} (h : Kg Gs X Y) (k : Kg Gs Y Z) : Kg Gs X Z := ⟨Nat.le_trans h.1 k.1, fun g hg => (k.2 g hg).trans (h.2 g hg)⟩
theorem Kg.below {Gs : List Nat} {X Y : World} (h : Below X.heap.size X Y) (hl : ∀ g ∈ Gs, g < X.heap.size) : Kg Gs X Y := ⟨h.size, fun g hg => h.block g (hl g hg)⟩
theorem Kg.cell {Gs : List Nat} {X Y : World} (h : Kg Gs X Y) {g i : Nat} (hg : g ∈ Gs) : Y.cell? ⟨g, i, none⟩ = X.cell? ⟨g, i, none⟩ := by simp only [World.cell?, h.2 g hg]
theorem YieldAt.mono {F : Fence} {m : Nat} {P : Program} {l : Nat} {args : Array Value} {W : World} {R R' : Ending → World → Prop} (h : YieldAt F m P l args W R) (hR : ∀ e Y, R e Y → R' e Y) : YieldAt F m P l args W R' := by
  obtain ⟨fn, tmps, assign, body, hy, hr⟩ := h
  exact ⟨fn, tmps, assign, body, hy, hr.mono hR⟩
end Go.Proofs.YtipgociofjokeaaGreat
namespace Go.Proofs.YtipgociofjokeaaGreat
open Go.RowKit

theorem range_A {P : Program} {g : Operand} {ps : Array Tmp} {assign body : Code} {Q : Exit → Act → World → Prop} {a : Act} {w : World} {gf : Nat} {lb : Array Value}
    (B : Nat) (hB : w.heap.size = B) (hg : a.eval g = .func (.func gf) #[] lb) (eg : ∀ args w, (callFunc gf args).run P w = .ok (.enter gf args) w)
    {Kp : World → World → Prop} {K : Nat → World → Prop} {R : Nat → Array Value → World → Prop} {N : Nat} (hseq : SeqR P gf lb Kp K R N w)
    (hKt : ∀ {A B C : World}, Kp A B → Kp B C → Kp A C) (hKb : ∀ (W : World) (o : Obj), B + 1 < W.heap.size → Kp W (W.putObj (B + 1) o))
    (I Ix : Nat → World → Prop) (hI : ∀ k X Y, I k X → Chg [B, B + 1] X Y → I k Y) (hIx : ∀ k X Y, Ix k X → Chg [B, B + 1] X Y → Ix k Y) (hIK : ∀ k X, I k X → K k X) (h0 : I 0 w)
    (hps : ∀ k args X, R k args X → args.size = ps.size) 
    (a₁ : Array Value → World → Act) (x₁ : Array Value → World → World) (hx₁ : ∀ k args X, R k args X → Below X.heap.size X (x₁ args X)) (hKa : ∀ k args X, R k args X → B + 1 < X.heap.size → Kp X (x₁ args X))
    (hassign : ∀ (l : Nat) (k : Nat) (args : Array Value) (X : World) (L : Act → World → Prop), R k args X → L (a₁ args X) (x₁ args X) →
      assign.wpIn (Fence.wide.inRound l) 1 P (Exit.then L (fun _ _ _ => False)) { tmps := (ps.zip args).foldl (fun t (p, v) => t.setIfInBounds p v) a.tmps, defers := [] } X)
    (hbody : ∀ (l : Nat) (k : Nat) (args : Array Value) (X Y : World), k < N → B + 1 < X.heap.size → I k X → R k args X → Chg [B, B + 1] (x₁ args X) Y → Y.heap.size = (x₁ args X).heap.size → body.wpIn (Fence.wide.inRound l) 1 P (postR B Kp (I (k + 1)) (Ix (k + 1)) Y) (a₁ args X) Y)
    (hdone : ∀ X, B + 1 < X.heap.size → I N X → X.heap[B]? = some (.deferred (some [])) → Q .normal { a with defers := { target := .collected B, args := #[] } :: a.defers } X)
    (hstop : ∀ k X, k ≤ N → Ix k X → X.heap[B]? = some (.deferred (some [])) → Code.ret.wpIn Fence.wide 3 P Q { a with defers := { target := .collected B, args := #[] } :: a.defers } X) :
    (Code.rangeFunc g ps assign body).wpIn Fence.wide 3 P Q a w := by
  refine wpIn_rangeFunc (fun fn hfn => ?_)
  let rc : LoopState → Option Code → Loop := fun st pe => { state := st, pending := pe, fn := fn, tmps := a.tmps, params := ps, assign := assign, body := body, defers := B }
  let W1 : World := (w.alloc (.deferred (some []))).alloc (.loop (rc .ready none))
  have hs1 : W1.heap.size = B + 2 := by show ((w.alloc _).alloc _).heap.size = _; simp [hB]
  have hL : W1.heap[B + 1]? = some (.loop (rc .ready none)) := by
    have h := World.alloc_heap_new (w.alloc (.deferred (some []))) (.loop (rc .ready none))
    rw [World.size_alloc, hB] at h; exact h
  have hD : W1.heap[B]? = some (.deferred (some [])) := by
    have h := World.alloc_heap_new w (.deferred (some []))
    rw [hB] at h
    exact (Below.heap_alloc _ _ _ (by simp [hB])).trans h
  have hb1 : Below B w W1 := ((Below.refl _ w).alloc (by omega) _).alloc (by simp; omega) _
  have hI1 : I 0 W1 := hI 0 w W1 h0 (Chg.of (by rw [hB]; exact hb1))
  refine ⟨B + 1, [{ target := .collected B, args := #[] }], W1, { target := .fn (.func gf) lb, args := #[.func (.yield (B + 1)) #[] #[]] }, W1, gf, #[.func (.yield (B + 1)) #[] #[]] ++ lb, W1, ?_, ?_, ?_, ?_, fun _ => by omega, ?_⟩
  · have h := run_enterLoop_outer (P := P) (w := w) fn a.tmps ps assign body
    rw [hB] at h; exact h
  · simp only [resolve, hg]
    simp [go_sem]
  · intro _ _; exact trivial
  · simp [invoke, go_sem, eg]
  · unfold SeqR at hseq
    rw [hB] at hseq
    refine (hseq (B + 1) (fun k X => I k X ∧ X.heap[B + 1]? = some (.loop (rc .ready none)) ∧ X.heap[B]? = some (.deferred (some []))) (fun k X => Ix k X ∧ X.heap[B + 1]? = some (.loop (rc .done (some .ret))) ∧ X.heap[B]? = some (.deferred (some []))) W1 hb1 ?_ ?_ ?_ ?_ ⟨hI1, hL, hD⟩).mono ?_
    · rintro k X Y ⟨h1, h2, h3⟩ hb
      exact ⟨hI k X Y h1 (Chg.of hb), (hb.block _ (Array.getElem?_eq_some_iff.1 h2).1).trans h2, (hb.block _ (Array.getElem?_eq_some_iff.1 h3).1).trans h3⟩
    · rintro k X Y ⟨h1, h2, h3⟩ hb
      exact ⟨hIx k X Y h1 (Chg.of hb), (hb.block _ (Array.getElem?_eq_some_iff.1 h2).1).trans h2, (hb.block _ (Array.getElem?_eq_some_iff.1 h3).1).trans h3⟩
    · exact fun k X h => hIK k X h.1
    · rintro k args X hk ⟨h1, h2, h3⟩ hr
      have hlt : B + 1 < X.heap.size := (Array.getElem?_eq_some_iff.1 h2).1
      have hb0 := hx₁ k args X hr
      have h2' := (hb0.block _ hlt).trans h2
      have h3' := (hb0.block _ (by omega)).trans h3
      have hlt' : B + 1 < (x₁ args X).heap.size := Nat.lt_of_lt_of_le hlt hb0.size
      refine ⟨fn, _, assign, body, run_yield (P := P) (args := args) h2 (hps k args X hr), roundIn_of_wpIn hfn (hassign _ k args X _ hr ⟨_, run_beginRound h2' rfl, ?_⟩)⟩
      have hp : ((x₁ args X).putObj (B + 1) (.loop { rc .ready none with state := .busy })).heap[B + 1]? = some (.loop { rc .ready none with state := .busy }) := World.putObj_heap_same hlt'
      have hq : ((x₁ args X).putObj (B + 1) (.loop { rc .ready none with state := .busy })).heap[B]? = some (.deferred (some [])) := (World.putObj_heap_other (by omega)).trans h3'
      refine wpIn_mono (hbody _ k args X _ hk hlt h1 hr (putObj_chg _ B _ _ (Or.inr rfl)) (by simp)) ?_
      rintro e a3 Y hpost
      cases e with
      | normal =>
        obtain ⟨⟨e1, e2⟩, hkp, hi⟩ := hpost
        have hy := e2.trans hp
        have hlt2 : B + 1 < Y.heap.size := (Array.getElem?_eq_some_iff.1 hy).1
        refine ⟨_, _, run_endRound (P := P) none hy, .inl ⟨rfl, ⟨hI _ Y _ hi (putObj_chg Y B _ _ (Or.inr rfl)), World.putObj_heap_same hlt2, (World.putObj_heap_other (by omega)).trans (e1.trans hq)⟩, hKt (hKt (hKt (hKa k args X hr hlt) (hKb (x₁ args X) _ hlt')) hkp) (hKb Y _ hlt2)⟩⟩
      | ret =>
        obtain ⟨⟨e1, e2⟩, hi⟩ := hpost
        have hy := e2.trans hp
        have hlt2 : B + 1 < Y.heap.size := (Array.getElem?_eq_some_iff.1 hy).1
        exact ⟨_, _, run_endRound (P := P) (some .ret) hy, .inr ⟨rfl, hIx _ Y _ hi (putObj_chg Y B _ _ (Or.inr rfl)), World.putObj_heap_same hlt2, (World.putObj_heap_other (by omega)).trans (e1.trans hq)⟩⟩
      | exit id => exact hpost.elim
      | goto t => exact hpost.elim
      | panic ch => exact hpost.elim
      | outgrown => exact hpost.elim
    · rintro e X ⟨⟨v, rfl⟩, (⟨h1, h2, h3⟩ | ⟨k, hk, h1, h2, h3⟩)⟩
      · exact ⟨none, _, run_endLoop (P := P) h2 (by simp [rc]), hdone _ (by simpa using (Array.getElem?_eq_some_iff.1 h2).1) (hI _ X _ h1 (putObj_chg X B _ _ (Or.inr rfl))) ((World.putObj_heap_other (by omega)).trans h3)⟩
      · exact ⟨some .ret, _, run_endLoop (P := P) h2 (by simp [rc]), hstop k _ hk (hIx _ X _ h1 (putObj_chg X B _ _ (Or.inr rfl))) ((World.putObj_heap_other (by omega)).trans h3)⟩
end Go.Proofs.YtipgociofjokeaaGreat
