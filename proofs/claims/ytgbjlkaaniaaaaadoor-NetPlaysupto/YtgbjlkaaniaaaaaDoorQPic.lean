/- The document's net in memory: its struct, its row of luck, its row of messages, their bytes. No function of the program is named here. -/
import Derived.Test.YtgbjlkaaniaaaaaDoorNSide
namespace Go.Proofs.YtgbjlkaaniaaaaaDoor
open Go.RowKit

abbrev TR : TypeId := 29
abbrev TQ : TypeId := 68
theorem Tryd.infoQ : (Tryd.prog.info? TQ).map (fun i => (i.zero, i.size, i.bytes)) = some (some (.agg #[.int .i64 0, .slice none 0 0]), 2, 32) := by kernel_rfl
/-- A message: to whom, where its bytes lie. -/
structure QM where
  to : Int
  p : Part
def QM.msg (q : QM) : Msg := ⟨q.to, q.p.l⟩
def qmV (q : QM) : List Value := [.int .i64 q.to, .slice q.p.ad q.p.len q.p.cap]
def qmsV (l : List QM) : List Value := l.flatMap qmV
theorem qmsV_len (l : List QM) : (qmsV l).length = l.length * 2 := by
  induction l with
  | nil => rfl
  | cons a l ih => unfold qmsV at *; rw [List.flatMap_cons, List.length_append, ih]; simp [qmV]; omega
theorem qmsV_app (a b : List QM) : qmsV (a ++ b) = qmsV a ++ qmsV b := by unfold qmsV; rw [List.flatMap_append]
theorem qmsV_one (l : List QM) : ∀ u ∈ qmsV l, u.oneCell' = true := by
  intro u hu
  obtain ⟨m, _, h⟩ := List.mem_flatMap.1 hu
  simp [qmV] at h
  rcases h with rfl | rfl <;> rfl
theorem qmsV_cons (a : QM) (l : List QM) : qmsV (a :: l) = .int .i64 a.to :: .slice a.p.ad a.p.len a.p.cap :: qmsV l := rfl
theorem qmsV_get (l : List QM) (k : Nat) (h : k < l.length) : (qmsV l)[k * 2]? = some (.int .i64 l[k].to) ∧ (qmsV l)[k * 2 + 1]? = some (.slice l[k].p.ad l[k].p.len l[k].p.cap) := by
  induction l generalizing k with
  | nil => simp at h
  | cons a l ih =>
    cases k with
    | zero => rw [qmsV_cons]; exact ⟨rfl, rfl⟩
    | succ k =>
      have := ih k (by simpa using h)
      rw [qmsV_cons, show (k + 1) * 2 = k * 2 + 1 + 1 by omega]
      simpa using this
theorem qmsV_take (l : List QM) (k : Nat) : qmsV (l.take k) = (qmsV l).take (k * 2) := by
  induction l generalizing k with
  | nil => simp [qmsV]
  | cons a l ih =>
    cases k with
    | zero => simp [qmsV]
    | succ k => rw [List.take_succ_cons, qmsV_cons, qmsV_cons, ih, show (k + 1) * 2 = k * 2 + 1 + 1 by omega]; rfl
theorem qmsV_drop (l : List QM) (k : Nat) : qmsV (l.drop k) = (qmsV l).drop (k * 2) := by
  induction l generalizing k with
  | nil => simp [qmsV]
  | cons a l ih =>
    cases k with
    | zero => simp
    | succ k => rw [List.drop_succ_cons, qmsV_cons, ih, show (k + 1) * 2 = k * 2 + 1 + 1 by omega]; rfl
/-- The bytes of a message lie in blocks of G. -/
def QOk (w : World) (G : List Nat) (q : QM) : Prop := q.p.ok w ∧ q.p.len ≤ 1048576 ∧ ∀ b off, q.p.ad = some ⟨b, off, none⟩ → q.p.l ≠ [] → b ∈ G ∧ ∃ cs fr, w.heap[b]? = some (.cells cs 5 fr)
structure QPic (w : World) (G : List Nat) (R : Nat) (v1 v2 : Value) (luck : List Int) (ms : List QM) : Prop where
  hD : w.heap[R]? = some (.cells #[v1, v2] TR (0, 0))
  r1 : OffRow w TI 1 v1 luck.length (luck.map intV)
  r2 : OffRow w TQ 2 v2 ms.length (qmsV ms)
  ps : ∀ q ∈ ms, QOk w G q
  mD : R ∈ G
  m1 : ∀ g, v1.ownBlock = some g → g ∈ G
  m2 : ∀ g, v2.ownBlock = some g → g ∈ G
  lt : ∀ g ∈ G, g < w.heap.size
def Qk (w : World) (G : List Nat) (R : Nat) (s : NSt) : Prop := ∃ v1 v2 ms, QPic w G R v1 v2 s.luck ms ∧ ms.map QM.msg = s.late
variable {w w' : World} {G : List Nat} {R : Nat} {v1 v2 : Value} {s : NSt} {luck : List Int} {ms : List QM}
theorem QOk.keep {q : QM} (h : QOk w G q) (hk : ∀ g ∈ G, w'.heap[g]? = w.heap[g]?) (hs : w.heap.size ≤ w'.heap.size) : QOk w' G q := by
  refine ⟨⟨h.1.1, h.1.2.1, h.1.2.2.1, ?_⟩, h.2.1, fun b off e h0 => ⟨(h.2.2 b off e h0).1, by rw [hk b (h.2.2 b off e h0).1]; exact (h.2.2 b off e h0).2⟩⟩
  rcases h.1.2.2.2 with h0 | ⟨b, off, e, hb, hc⟩
  · exact Or.inl h0
  · by_cases h0 : q.p.l = []
    · exact Or.inl h0
    · refine Or.inr ⟨b, off, e, Nat.lt_of_lt_of_le hb hs, fun i hi => ?_⟩
      have hm := hk b (h.2.2 b off e h0).1
      rw [← hc i hi]
      simp only [World.cell?, hm]
theorem QPic.keep (h : QPic w G R v1 v2 luck ms) (hk : ∀ g ∈ G, w'.heap[g]? = w.heap[g]?) (hs : w.heap.size ≤ w'.heap.size) : QPic w' G R v1 v2 luck ms :=
  ⟨(hk R h.mD).trans h.hD, h.r1.keep (fun g hg => hk g (h.m1 g hg)), h.r2.keep (fun g hg => hk g (h.m2 g hg)), fun q hq => (h.ps q hq).keep hk hs, h.mD, h.m1, h.m2, fun g hg => Nat.lt_of_lt_of_le (h.lt g hg) hs⟩
theorem Qk.keep (h : Qk w G R s) (hk : ∀ g ∈ G, w'.heap[g]? = w.heap[g]?) (hs : w.heap.size ≤ w'.heap.size) : Qk w' G R s := by
  obtain ⟨v1, v2, ms, h, e⟩ := h
  exact ⟨v1, v2, ms, h.keep hk hs, e⟩
theorem QPic.below (h : QPic w G R v1 v2 luck ms) (hb : Below w.heap.size w w') : QPic w' G R v1 v2 luck ms := h.keep (fun g hg => hb.block g (h.lt g hg)) hb.size
theorem Qk.below (h : Qk w G R s) (hb : Below w.heap.size w w') : Qk w' G R s := by
  obtain ⟨v1, v2, ms, h, e⟩ := h
  exact ⟨v1, v2, ms, h.below hb, e⟩
theorem Qk.lt (h : Qk w G R s) : ∀ g ∈ G, g < w.heap.size := by
  obtain ⟨v1, v2, ms, h, e⟩ := h
  exact h.lt
theorem QPic.cells (h : QPic w G R v1 v2 luck ms) : w.cell? ⟨R, 0, none⟩ = some v1 ∧ w.cell? ⟨R, 1, none⟩ = some v2 :=
  ⟨by rw [cell_of_row _ _ _ _ _ _ h.hD]; rfl, by rw [cell_of_row _ _ _ _ _ _ h.hD]; rfl⟩
theorem QPic.free (h : QPic w G R v1 v2 luck ms) (i : Nat) : w.frozen? ⟨R, i, none⟩ = false := by simp [World.frozen?, h.hD]
structure QMoved (G : List Nat) (R : Nat) (s : NSt) (w w' : World) : Prop where
  net : ∃ G', Qk w' G' R s ∧ ∀ g ∈ G', g ∈ G ∨ w.heap.size ≤ g
  chg : Chg G w w'
theorem QMoved.refl (h : Qk w G R s) : QMoved G R s w w := ⟨⟨G, h, fun _ hg => Or.inl hg⟩, Chg.refl _ _⟩
theorem QMoved.of_below (h : Qk w G R s) (hb : Below w.heap.size w w') : QMoved G R s w w' := ⟨⟨G, h.below hb, fun _ hg => Or.inl hg⟩, Chg.of hb⟩
theorem QMoved.later {w1 w2 : World} (h : QMoved G R s w w1) (hb : Below w1.heap.size w1 w2) : QMoved G R s w w2 := by
  obtain ⟨G', h3, h4⟩ := h.net
  exact ⟨⟨G', h3.below hb, h4⟩, h.chg.trans (G := []) (Chg.of hb) (fun k hk => by cases hk)⟩
theorem QMoved.after {w0 w1 : World} (hb : Below w.heap.size w w0) (h : QMoved G R s w0 w1) : QMoved G R s w w1 := by
  obtain ⟨G', h3, h4⟩ := h.net
  refine ⟨⟨G', h3, fun g hg => (h4 g hg).imp id (fun h5 => Nat.le_trans hb.size h5)⟩, ⟨h.chg.os.trans hb.os, h.chg.tape.trans hb.tape, h.chg.output.trans hb.output, Nat.le_trans hb.size h.chg.size, fun k hk1 hk2 => by rw [h.chg.block k (Nat.lt_of_lt_of_le hk1 hb.size) hk2, hb.block k hk1]⟩⟩
theorem QMoved.comp {s1 s2 : NSt} {G1 : List Nat} {w1 w2 : World} (h2 : QMoved G1 R s2 w1 w2) (h1 : QMoved G R s1 w w1) (hG : ∀ g ∈ G1, g ∈ G ∨ w.heap.size ≤ g) : QMoved G R s2 w w2 := by
  obtain ⟨G', h3, h4⟩ := h2.net
  refine ⟨⟨G', h3, fun g hg => ?_⟩, h1.chg.trans h2.chg hG⟩
  rcases h4 g hg with h5 | h5
  · exact hG g h5
  · exact Or.inr (Nat.le_trans h1.chg.size h5)
theorem QPic.ne1 (h : QPic w G R v1 v2 luck ms) : v1.ownBlock ≠ some R := h.r1.ne h.hD (by decide)
theorem QPic.ne2 (h : QPic w G R v1 v2 luck ms) : v2.ownBlock ≠ some R := h.r2.ne h.hD (by decide)
theorem QPic.ne12 (h : QPic w G R v1 v2 luck ms) {g : Nat} (hg : v1.ownBlock = some g) : v2.ownBlock ≠ some g := by
  obtain ⟨cur, hc⟩ := h.r1.typed hg
  exact h.r2.ne hc (by decide)
/-- .. where all is kept but blocks of other types. -/
theorem QOk.keep2 {G' : List Nat} {q : QM} (h : QOk w G q) (hG : ∀ g ∈ G, g ∈ G') (hk : ∀ g ∈ G, (∃ cs fr, w.heap[g]? = some (.cells cs 5 fr)) → w'.heap[g]? = w.heap[g]?) (hs : w.heap.size ≤ w'.heap.size) : QOk w' G' q := by
  refine ⟨⟨h.1.1, h.1.2.1, h.1.2.2.1, ?_⟩, h.2.1, fun b off e h0 => ⟨hG b (h.2.2 b off e h0).1, by rw [hk b (h.2.2 b off e h0).1 (h.2.2 b off e h0).2]; exact (h.2.2 b off e h0).2⟩⟩
  rcases h.1.2.2.2 with h0 | ⟨b, off, e, hb, hc⟩
  · exact Or.inl h0
  · by_cases h0 : q.p.l = []
    · exact Or.inl h0
    · refine Or.inr ⟨b, off, e, Nat.lt_of_lt_of_le hb hs, fun i hi => ?_⟩
      have hm := hk b (h.2.2 b off e h0).1 (h.2.2 b off e h0).2
      rw [← hc i hi]
      simp only [World.cell?, hm]
theorem u8_ne {g g2 : Nat} {cs : Array Value} {T : TypeId} (h : ∃ cs fr, w.heap[g]? = some (.cells cs 5 fr)) (hB : w.heap[g2]? = some (.cells cs T (0, 0))) (hT : T ≠ 5) : g ≠ g2 := fun e => by
  obtain ⟨cs', fr, h⟩ := h
  rw [e, hB] at h
  injection h with h
  injection h with _ h2
  exact hT h2
/-- The struct behind a store into its row of luck. -/
theorem QPic.set1 (h : QPic w G R v1 v2 luck ms) {u1 : Value} {l : List Int} {w1 : World} (hg : w.grownBy w1 v1.ownBlock) (hr : OffRow w1 TI 1 u1 l.length (l.map intV)) (hu : ∀ g, u1.ownBlock = some g → v1.ownBlock = some g ∨ w.heap.size ≤ g) {late : List Msg} (hms : ms.map QM.msg = late) :
    QMoved G R ⟨l, late⟩ w (w1.setCell ⟨R, 0, none⟩ u1) := by
  have hDlt : R < w.heap.size := h.lt R h.mD
  have hD1 : w1.heap[R]? = some (.cells #[v1, v2] TR (0, 0)) := (hg.block R hDlt (fun e => h.ne1 e.symm)).trans h.hD
  have ho : ∀ g, g ≠ R → (w1.setCell ⟨R, 0, none⟩ u1).heap[g]? = w1.heap[g]? := fun g hne => Below.heap_setCell _ _ _ _ hne
  have hsz : (w1.setCell ⟨R, 0, none⟩ u1).heap.size = w1.heap.size := by simp [World.setCell]
  refine ⟨⟨G ++ (match u1.ownBlock with | some g => [g] | none => []), ⟨u1, v2, ms, ⟨?_, ?_, ?_, ?_, by simp [h.mD], ?_, fun g hg2 => by simp [h.m2 g hg2], ?_⟩, hms⟩, ?_⟩, ?_⟩
  · rw [heap_setCell_same w1 R 0 _ TR _ hD1]; rfl
  · exact hr.keep (fun g hg2 => ho g (fun e => by
      obtain ⟨cur, hc⟩ := hr.typed hg2
      rw [e, hD1] at hc
      injection hc with hc; injection hc with _ h2; exact absurd h2 (by decide)))
  · exact h.r2.keep (fun g hg2 => by
      rw [ho g (fun e => h.ne2 (by rw [hg2, e])), hg.block g (h.lt g (h.m2 g hg2)) (fun e => h.ne12 e.symm hg2)])
  · intro q hq
    refine (h.ps q hq).keep2 (fun g hg2 => by simp [hg2]) (fun g hg2 ht => ?_) (by rw [hsz]; exact hg.size)
    rw [ho g (u8_ne ht h.hD (by decide)), hg.block g (h.lt g hg2) (fun e => ?_)]
    obtain ⟨cur, hc⟩ := h.r1.typed e.symm
    exact u8_ne ht hc (by decide) rfl
  · intro g hg2; rw [hg2]; simp
  · intro g hg2
    rw [hsz]
    rcases List.mem_append.1 hg2 with hg2 | hg2
    · exact Nat.lt_of_lt_of_le (h.lt g hg2) hg.size
    · cases hq : u1.ownBlock with
      | none => rw [hq] at hg2; cases hg2
      | some g2 => rw [hq] at hg2; simp at hg2; subst hg2; exact hr.lt g hq
  · intro g hg2
    rcases List.mem_append.1 hg2 with hg2 | hg2
    · exact Or.inl hg2
    · cases hq : u1.ownBlock with
      | none => rw [hq] at hg2; cases hg2
      | some g2 =>
        rw [hq] at hg2; simp at hg2; subst hg2
        rcases hu g hq with h2 | h2
        · exact Or.inl (h.m1 g h2)
        · exact Or.inr h2
  · refine ⟨hg.os, hg.tape, hg.output, by rw [hsz]; exact hg.size, fun k hk hn => ?_⟩
    rw [ho k (fun e => hn (by rw [e]; exact h.mD)), hg.block k hk (fun e => hn (h.m1 k e.symm))]
/-- .. into its row of messages; N: the new blocks of bytes. -/
theorem QPic.set2 (h : QPic w G R v1 v2 luck ms) {u2 : Value} {l : List QM} {w1 : World} (N : List Nat) (hg : w.grownBy w1 v2.ownBlock) (hr : OffRow w1 TQ 2 u2 l.length (qmsV l)) (hu : ∀ g, u2.ownBlock = some g → v2.ownBlock = some g ∨ w.heap.size ≤ g) (hN : ∀ g ∈ N, w.heap.size ≤ g ∧ g < w1.heap.size) (hl : ∀ q ∈ l, q ∈ ms ∨ QOk w1 N q) {late : List Msg} (hms : l.map QM.msg = late) :
    QMoved G R ⟨luck, late⟩ w (w1.setCell ⟨R, 1, none⟩ u2) := by
  have hDlt : R < w.heap.size := h.lt R h.mD
  have hD1 : w1.heap[R]? = some (.cells #[v1, v2] TR (0, 0)) := (hg.block R hDlt (fun e => h.ne2 e.symm)).trans h.hD
  have ho : ∀ g, g ≠ R → (w1.setCell ⟨R, 1, none⟩ u2).heap[g]? = w1.heap[g]? := fun g hne => Below.heap_setCell _ _ _ _ hne
  have hsz : (w1.setCell ⟨R, 1, none⟩ u2).heap.size = w1.heap.size := by simp [World.setCell]
  refine ⟨⟨G ++ N ++ (match u2.ownBlock with | some g => [g] | none => []), ⟨v1, u2, l, ⟨?_, ?_, ?_, ?_, by simp [h.mD], fun g hg2 => by simp [h.m1 g hg2], ?_, ?_⟩, hms⟩, ?_⟩, ?_⟩
  · rw [heap_setCell_same w1 R 1 _ TR _ hD1]; rfl
  · exact h.r1.keep (fun g hg2 => by
      rw [ho g (fun e => h.ne1 (by rw [hg2, e])), hg.block g (h.lt g (h.m1 g hg2)) (fun e => h.ne12 hg2 e.symm)])
  · exact hr.keep (fun g hg2 => ho g (fun e => by
      obtain ⟨cur, hc⟩ := hr.typed hg2
      rw [e, hD1] at hc
      injection hc with hc; injection hc with _ h2; exact absurd h2 (by decide)))
  · intro q hq
    rcases hl q hq with hq | hq
    · refine (h.ps q hq).keep2 (fun g hg2 => by simp [hg2]) (fun g hg2 ht => ?_) (by rw [hsz]; exact hg.size)
      rw [ho g (u8_ne ht h.hD (by decide)), hg.block g (h.lt g hg2) (fun e => ?_)]
      obtain ⟨cur, hc⟩ := h.r2.typed e.symm
      exact u8_ne ht hc (by decide) rfl
    · refine hq.keep2 (fun g hg2 => by simp [hg2]) (fun g hg2 ht => ho g (u8_ne ht hD1 (by decide))) (by rw [hsz]; exact Nat.le_refl _)
  · intro g hg2; rw [hg2]; simp
  · intro g hg2
    rw [hsz]
    rcases List.mem_append.1 hg2 with hg2 | hg2
    · rcases List.mem_append.1 hg2 with hg2 | hg2
      · exact Nat.lt_of_lt_of_le (h.lt g hg2) hg.size
      · exact (hN g hg2).2
    · cases hq : u2.ownBlock with
      | none => rw [hq] at hg2; cases hg2
      | some g2 => rw [hq] at hg2; simp at hg2; subst hg2; exact hr.lt g hq
  · intro g hg2
    rcases List.mem_append.1 hg2 with hg2 | hg2
    · rcases List.mem_append.1 hg2 with hg2 | hg2
      · exact Or.inl hg2
      · exact Or.inr (hN g hg2).1
    · cases hq : u2.ownBlock with
      | none => rw [hq] at hg2; cases hg2
      | some g2 =>
        rw [hq] at hg2; simp at hg2; subst hg2
        rcases hu g hq with h2 | h2
        · exact Or.inl (h.m2 g h2)
        · exact Or.inr h2
  · refine ⟨hg.os, hg.tape, hg.output, by rw [hsz]; exact hg.size, fun k hk hn => ?_⟩
    rw [ho k (fun e => hn (by rw [e]; exact h.mD)), hg.block k hk (fun e => hn (h.m2 k e.symm))]
/-- A slice as a source. -/
theorem OffRow.src {e : TypeId} {size n : Nat} {ad : Option Addr} {c : Nat} {xs : List Value} (h : OffRow w e size (.slice ad n c) n xs) : Src w ad n xs := by
  rcases h.2 with ⟨h1, h2⟩ | ⟨g, o, cap, cur, hv, hb, r1, r2, r3, r4⟩
  · cases h1; exact Or.inl ⟨rfl, h2⟩
  · cases hv
    refine Or.inr ⟨_, rfl, fun j u hu => ?_⟩
    have hj : j < xs.length := (List.getElem?_eq_some_iff.1 hu).1
    rw [addr_add, cell_of_row _ _ _ _ _ _ hb, r4 j (by rw [← h.1]; exact hj)]
    exact hu
theorem Src.later {ad : Option Addr} {m : Nat} {news : List Value} (h : Src w ad m news) (hb : Below w.heap.size w w') : Src w' ad m news := by
  rcases h with h | ⟨a, e, hc⟩
  · exact Or.inl h
  · refine Or.inr ⟨a, e, fun j u hu => ?_⟩
    have h0 := hc j u hu
    have hlt := World.block_lt_of_cell? w (a.add j) h0
    rw [← h0]
    have hk := hb.block (a.add j).block hlt
    exact World.cell?_of_block hk
end Go.Proofs.YtgbjlkaaniaaaaaDoor
