/- What GroupOffsets keeps, over plain data (P1508, P1509): the offsets that are told, and what is pending. GroupOffsets, whatever the events (P1508, P1509; by genoff15.py). -/
import Derived.Test.YtnloeegaompfdaaGreatGMem
import Derived.Test.YtnloeegaompfdaaGreatGPendC
import Derived.Test.YtnloeegaompfdaaGreatOpenEvs
import Derived.BigQuiet
import Derived.Deep.DeepCutAuto
import Derived.Deep.CutBlock
namespace Go.Proofs.YtnloeegaompfdaaGreat
open Go.RowKit Go.Sort
variable {G : Gp}

/-- What is told of a partition; -1: nothing. -/
def tld (f : Int → Option Int) (k : Int) : Int := (f k).getD (-1)
def ofA (f : Int → Option Int) : Array Value := #[.int .i64 (tld f 0), .int .i64 (tld f 1), .int .i64 (tld f 2), .int .i64 (tld f 3)]
theorem tld_set (f : Int → Option Int) (p v q : Int) : tld (setN f p (some v)) q = if q = p then v else tld f q := by
  unfold tld
  by_cases h : q = p
  · subst h; rw [setN_same, if_pos rfl]; rfl
  · rw [setN_other f h, if_neg h]
theorem ofA_set (f : Int → Option Int) (p : Nat) (hp : p < 4) (v : Int) : (ofA f).setIfInBounds p (.int .i64 v) = ofA (setN f (p : Int) (some v)) := by
  unfold ofA
  rw [tld_set, tld_set, tld_set, tld_set]
  rcases (show p = 0 ∨ p = 1 ∨ p = 2 ∨ p = 3 by omega) with rfl | rfl | rfl | rfl <;> rfl
theorem ofA_get (f : Int → Option Int) (k : Nat) (hk : k < 4) : (ofA f)[k]? = some (.int .i64 (tld f (k : Int))) := by
  unfold ofA
  rcases (show k = 0 ∨ k = 1 ∨ k = 2 ∨ k = 3 by omega) with rfl | rfl | rfl | rfl <;> rfl
/-- What the statement's own lists have to do with a group. -/
structure ORel (G : Gp) (P : List Ev) : Prop where
  parts : G.parts = 4
  pend : G.pend = P.map (fun x => (x.prod, x.part, x.off))
  pin : ∀ x ∈ P, 0 ≤ x.part ∧ x.part < 4 ∧ 0 ≤ x.off ∧ x.off < 281474976710656
  off : ∀ k v, G.off k = some v → 0 ≤ v ∧ v < 281474976710656
theorem ORel.new : ORel (gp0 4 10) [] := ⟨rfl, rfl, fun x h => by simp at h, fun k v h => by simp [gp0] at h⟩
/-- The offsets behind a Mark that looked at L. -/
noncomputable def offA (G : Gp) (x : Ev) (L : List Ev) : Int → Option Int := if x.yes then ((L.filter (fun y => y.prod == x.prod)).foldl (fun f y => setN f y.part (some y.off)) G.off) else G.off
def rstA (x : Ev) (L : List Ev) : List Ev := L.filter (fun y => !(y.prod == x.prod))
theorem offA_nil (x : Ev) : offA G x [] = G.off := by unfold offA; cases x.yes <;> rfl
theorem offA_snoc (x : Ev) (L : List Ev) (y : Ev) : offA G x (L ++ [y]) = if (y.prod == x.prod && x.yes) = true then setN (offA G x L) y.part (some y.off) else offA G x L := by
  unfold offA
  cases x.yes with
  | false => simp
  | true =>
    by_cases h : (y.prod == x.prod) = true
    · rw [List.filter_append, List.foldl_append]
      simp [h]
    · rw [List.filter_append, List.foldl_append]
      simp [h]
theorem rstA_snoc (x : Ev) (L : List Ev) (y : Ev) : rstA x (L ++ [y]) = if (y.prod == x.prod) = true then rstA x L else rstA x L ++ [y] := by
  unfold rstA
  rw [List.filter_append]
  by_cases h : (y.prod == x.prod) = true <;> simp [h]
theorem foldM (P : List Ev) (p : Int) : ∀ f : Int → Option Int, ((P.map (fun x => (x.prod, x.part, x.off))).filter (fun q => q.1 == p)).foldl (fun f q => setN f q.2.1 (some q.2.2)) f = (P.filter (fun y => y.prod == p)).foldl (fun f y => setN f y.part (some y.off)) f := by
  induction P with
  | nil => intro f; rfl
  | cons y P ih =>
    intro f
    by_cases h : (y.prod == p) = true
    · simp only [List.map_cons, List.filter_cons, h, if_true, List.foldl_cons]
      exact ih _
    · simp only [List.map_cons, List.filter_cons, h]
      exact ih f
theorem filtM (P : List Ev) (p : Int) : (P.map (fun x => (x.prod, x.part, x.off))).filter (fun q => !(q.1 == p)) = (P.filter (fun y => !(y.prod == p))).map (fun x => (x.prod, x.part, x.off)) := by
  induction P with
  | nil => rfl
  | cons y P ih =>
    by_cases h : (y.prod == p) = true
    · simp only [List.map_cons, List.filter_cons, h, Bool.not_true]
      exact ih
    · simp only [List.map_cons, List.filter_cons, h, Bool.not_false, if_true]
      rw [ih]
theorem dec0 {x : Ev} : (G.dec x).2 = 0 ↔ x.may ∧ G.whyNot x = 0 := by
  unfold Gp.dec
  by_cases h : x.may
  · rw [if_pos h]
    by_cases h2 : G.whyNot x = 0
    · rw [if_pos h2]; exact ⟨fun _ => ⟨h, h2⟩, fun _ => rfl⟩
    · rw [if_neg h2]; exact ⟨fun h3 => absurd h3 h2, fun h3 => absurd h3.2 h2⟩
  · rw [if_neg h]
    exact ⟨fun h3 => absurd h3 (by decide), fun h3 => absurd h3.1 h⟩
theorem app_refused {x : Ev} (h : (G.dec x).2 ≠ 0) : G.app x = G := by
  unfold Gp.app
  rw [if_neg]
  exact fun hc => h (dec0.2 ⟨hc.1, hc.2.1⟩)
theorem parts_app (x : Ev) : (G.app x).parts = G.parts := by
  unfold Gp.app
  split
  · unfold Gp.take
    repeat' split
    all_goals rfl
  · rfl
/-- A commit that is taken. -/
theorem o_commit {x : Ev} {P : List Ev} (h : ORel G P) (hk : x.kind = 4) (h0 : (G.dec x).2 = 0) : (G.has x.mem && x.gen == G.gen) = true ∧ 0 ≤ x.part ∧ x.part < 4 ∧ 0 ≤ x.off ∧ (G.app x).off = setN G.off x.part (some x.off) ∧ ORel (G.app x) P := by
  obtain ⟨hm, hw⟩ := dec0.1 h0
  have hin := hm.2.2.2.1
  have hd : G.done x = false := by unfold Gp.done; rw [if_neg (by omega), if_neg (by omega)]
  have ha : G.app x = { G with off := setN G.off x.part (some x.off) } := by
    unfold Gp.app; rw [if_pos ⟨hm, hw, hd⟩]
    unfold Gp.take; rw [if_neg (by omega), if_neg (by omega), if_neg (by omega), if_pos hk]
  unfold Gp.whyNot at hw
  rw [if_neg (by omega), if_neg (by omega), if_neg (by omega), if_pos hk] at hw
  have hc : (G.has x.mem && x.gen == G.gen) = true := by
    by_cases hc : (G.has x.mem && x.gen == G.gen) = true
    · exact hc
    · rw [if_neg hc] at hw; exact absurd hw (by decide)
  rw [if_pos hc] at hw
  have hp : x.part < G.parts := by
    by_cases hp : x.part < G.parts
    · exact hp
    · rw [if_neg hp] at hw; exact absurd hw (by decide)
  rw [h.parts] at hp
  obtain ⟨-, hp0, ho0, -⟩ := hin
  refine ⟨hc, hp0.1, hp, ho0.1, by rw [ha], ?_⟩
  rw [ha]
  refine ⟨h.parts, h.pend, h.pin, fun k v hv => ?_⟩
  have hv : setN G.off x.part (some x.off) k = some v := hv
  by_cases e : k = x.part
  · rw [e, setN_same] at hv; injection hv with hv; subst hv; exact ho0
  · rw [setN_other G.off e] at hv; exact h.off k v hv
/-- A promise that is taken. -/
theorem o_promise {x : Ev} {P : List Ev} (h : ORel G P) (hk : x.kind = 6) (h0 : (G.dec x).2 = 0) : (G.has x.mem && x.gen == G.gen) = true ∧ (G.app x).off = G.off ∧ ORel (G.app x) (P ++ [x]) := by
  obtain ⟨hm, hw⟩ := dec0.1 h0
  have hin := hm.2.2.2.1
  have hd : G.done x = false := by unfold Gp.done; rw [if_neg (by omega), if_neg (by omega)]
  have ha : G.app x = { G with pend := G.pend ++ [(x.prod, x.part, x.off)], ep := setN G.ep x.prod (some x.ep) } := by
    unfold Gp.app; rw [if_pos ⟨hm, hw, hd⟩]
    unfold Gp.take; rw [if_neg (by omega), if_neg (by omega), if_neg (by omega), if_neg (by omega), if_neg (by omega), if_pos hk]
  unfold Gp.whyNot at hw
  rw [if_neg (by omega), if_neg (by omega), if_neg (by omega), if_neg (by omega), if_neg (by omega), if_pos hk] at hw
  have hc : (G.has x.mem && x.gen == G.gen) = true := by
    by_cases hc : (G.has x.mem && x.gen == G.gen) = true
    · exact hc
    · rw [if_neg hc] at hw; exact absurd hw (by decide)
  rw [if_pos hc] at hw
  have hp : x.part < G.parts := by
    by_cases hp : x.part < G.parts
    · exact hp
    · rw [if_neg hp] at hw; exact absurd hw (by decide)
  rw [h.parts] at hp
  obtain ⟨-, hp0, ho0, -⟩ := hin
  refine ⟨hc, by rw [ha], ?_⟩
  rw [ha]
  refine ⟨h.parts, ?_, fun y hy => ?_, h.off⟩
  · show G.pend ++ [(x.prod, x.part, x.off)] = _
    rw [h.pend, List.map_append]; rfl
  · rcases List.mem_append.1 hy with hy | hy
    · exact h.pin y hy
    · rw [List.mem_singleton] at hy; subst hy; exact ⟨hp0.1, hp, ho0⟩
theorem offA_in {P : List Ev} (h : ORel G P) (x : Ev) : ∀ L : List Ev, (∀ y ∈ L, y ∈ P) → ∀ k v, offA G x L k = some v → 0 ≤ v ∧ v < 281474976710656 := by
  intro L hL
  unfold offA
  cases x.yes with
  | false => exact h.off
  | true =>
    rw [if_pos rfl]
    have : ∀ (M : List Ev) (f : Int → Option Int), (∀ y ∈ M, y ∈ P) → (∀ k v, f k = some v → 0 ≤ v ∧ v < 281474976710656) → ∀ k v, M.foldl (fun f y => setN f y.part (some y.off)) f k = some v → 0 ≤ v ∧ v < 281474976710656 := by
      intro M
      induction M with
      | nil => intro f _ hf; exact hf
      | cons y M ih =>
        intro f hM hf
        refine ih _ (fun z hz => hM z (List.mem_cons_of_mem _ hz)) (fun k v hv => ?_)
        have hv : setN f y.part (some y.off) k = some v := hv
        by_cases e : k = y.part
        · rw [e, setN_same] at hv; injection hv with hv; subst hv; exact (h.pin y (hM y (List.mem_cons_self))).2.2
        · rw [setN_other f e] at hv; exact hf k v hv
    exact this _ _ (fun y hy => hL y (List.mem_filter.1 hy).1) h.off
/-- A mark that is taken. -/
theorem o_mark {x : Ev} {P : List Ev} (h : ORel G P) (hk : x.kind = 7) (h0 : (G.dec x).2 = 0) : (G.app x).off = offA G x P ∧ ORel (G.app x) (rstA x P) := by
  obtain ⟨hm, hw⟩ := dec0.1 h0
  have key : (G.app x).off = offA G x P ∧ (G.app x).pend = (rstA x P).map (fun x => (x.prod, x.part, x.off)) := by
    by_cases hd : G.done x = false
    · have ha : G.app x = { G with off := (if x.yes then (G.pend.filter (fun q => q.1 == x.prod)).foldl (fun f q => setN f q.2.1 (some q.2.2)) G.off else G.off), pend := G.pend.filter (fun q => !(q.1 == x.prod)), ep := setN G.ep x.prod (some x.ep) } := by
        unfold Gp.app; rw [if_pos ⟨hm, hw, hd⟩]
        unfold Gp.take; rw [if_neg (by omega), if_neg (by omega), if_neg (by omega), if_neg (by omega), if_neg (by omega), if_neg (by omega)]
      rw [ha]
      refine ⟨?_, ?_⟩
      · show (if x.yes = true then _ else _) = _
        rw [h.pend, foldM]; rfl
      · show G.pend.filter (fun q => !(q.1 == x.prod)) = _
        rw [h.pend, filtM]; rfl
    · have ha : G.app x = G := by
        unfold Gp.app; rw [if_neg]; exact fun hc => hd hc.2.2
      have hd : (G.ep x.prod == some x.ep && !pendOf x.prod G.pend) = true := by
        have h1 : G.done x = true := by simpa using hd
        unfold Gp.done at h1
        rw [if_neg (by omega), if_pos hk] at h1
        exact h1
      rw [Bool.and_eq_true] at hd
      have hn : pendOf x.prod G.pend = false := by simpa using hd.2
      have hn2 : ∀ y ∈ P, (y.prod == x.prod) = false := by
        intro y hy
        unfold pendOf at hn
        rw [h.pend, List.any_map, List.any_eq_false] at hn
        have := hn y hy
        simpa using this
      have hf : P.filter (fun y => y.prod == x.prod) = [] := by
        rw [List.filter_eq_nil_iff]; intro y hy; rw [hn2 y hy]; decide
      have hr : rstA x P = P := by
        unfold rstA; rw [List.filter_eq_self]; intro y hy; rw [hn2 y hy]; rfl
      rw [ha, hr]
      refine ⟨?_, h.pend⟩
      unfold offA
      rw [hf]
      cases x.yes <;> rfl
  refine ⟨key.1, (parts_app x).trans h.parts, key.2, fun y hy => h.pin y (List.mem_filter.1 hy).1, fun k v hv => ?_⟩
  rw [key.1] at hv
  exact offA_in h x P (fun y hy => hy) k v hv
/-- Any other event that is taken. -/
theorem o_other {x : Ev} {P : List Ev} (h : ORel G P) (h4 : x.kind ≠ 4) (h6 : x.kind ≠ 6) (h7 : x.kind ≠ 7) (h0 : (G.dec x).2 = 0) : (G.app x).off = G.off ∧ ORel (G.app x) P := by
  have hm := (dec0.1 h0).1
  have hkk := hm.1
  have key : (G.app x).off = G.off ∧ (G.app x).pend = G.pend := by
    unfold Gp.app
    split
    · unfold Gp.take
      by_cases h1 : x.kind = 1
      · rw [if_pos h1]; split <;> exact ⟨rfl, rfl⟩
      · rw [if_neg h1]
        by_cases h2 : x.kind = 2
        · rw [if_pos h2]; exact ⟨rfl, rfl⟩
        · rw [if_neg h2]
          by_cases h3 : x.kind = 3
          · rw [if_pos h3]; exact ⟨rfl, rfl⟩
          · rw [if_neg h3, if_neg h4, if_pos (by omega)]; exact ⟨rfl, rfl⟩
    · exact ⟨rfl, rfl⟩
  exact ⟨key.1, (parts_app x).trans h.parts, key.2.trans h.pend, h.pin, fun k v hv => h.off k v (by rw [← key.1]; exact hv)⟩
end Go.Proofs.YtnloeegaompfdaaGreat
namespace Go.Proofs.YtnloeegaompfdaaGreat
open Go.RowKit Go.Shelf
variable {w w' W : World} {g n B ob i : Nat} {G G' : Gp} {F X Y : List Nat} {P : List Ev} {pa : Option Addr} {pn pc : Nat}

theorem own15_any (x : Ev) (w : World) : Calls Tryz.prog 11 #[.agg (evA x)] w fun r w' => r = .returned (.agg (evA x)) ∧ Below w.heap.size w w' := by
  obtain ⟨k, s, a, b, c, d, e, f, q⟩ := x
  show Calls Tryz.prog 11 #[.agg #[.int .i64 k, .string (nmS s), .int .i64 a, .int .i64 b, .int .i64 c, .int .i64 d, .int .i64 e, .int .i64 f, .bool q]] w fun r w' => r = .returned (.agg #[.int .i64 k, .string (nmS s), .int .i64 a, .int .i64 b, .int .i64 c, .int .i64 d, .int .i64 e, .int .i64 f, .bool q]) ∧ Below w.heap.size w w'
  generalize nmS s = t
  go_enter Tryz.func11, Tryz.ntmps11
  go_wp2_with fail
  refine bodyPost_ret (v := .agg #[.int .i64 k, .string t, .int .i64 a, .int .i64 b, .int .i64 c, .int .i64 d, .int .i64 e, .int .i64 f, .bool q]) (by simp [results, Tryz.results11, go_sem]) rfl ⟨rfl, ?_⟩
  exact ((Below.refl _ w).alloc (Nat.le_refl _) _).alloc (by simp) _
theorem kER_ok : kER.ok := ⟨kER_fit, fun a v hv => by
  have : v = .int .i64 a.kind ∨ v = .string (nmS a.mem) ∨ v = .int .i64 a.gen ∨ v = .int .i64 a.part ∨ v = .int .i64 a.off ∨ v = .int .i64 a.prod ∨ v = .int .i64 a.ep ∨ v = .int .i64 a.now ∨ v = .bool a.yes := by simpa [evA] using hv
  rcases this with rfl | rfl | rfl | rfl | rfl | rfl | rfl | rfl | rfl <;> rfl, by kernel_rfl, rfl, Tryz.underlying22⟩
/-- A group that a caller made, beside blocks X of the caller's own. -/
def GOx (B : Nat) (X : List Nat) (w : World) (g n : Nat) (G : Gp) : Prop := ∃ F, GAt w F g n G ∧ (∀ b ∈ F, B ≤ b ∧ b ∉ X) ∧ ∀ b ∈ X, b < w.heap.size
theorem GOx.of (h : GOx B X w g n G) : GOf B w g n G := by obtain ⟨F, h1, h2, -⟩ := h; exact ⟨F, h1, fun b hb => (h2 b hb).1⟩
theorem GOx.pick (h : GOx B X w g n G) (hc : Chg X w w') (hY : ∀ b ∈ Y, (b ∈ X ∨ w.heap.size ≤ b) ∧ b < w'.heap.size) : GOx B Y w' g n G := by
  obtain ⟨F, h1, h2, h3⟩ := h
  refine ⟨F, h1.chg hc (fun b hb => (h2 b hb).2), fun b hb => ⟨(h2 b hb).1, fun hm => ?_⟩, fun b hb => (hY b hb).2⟩
  rcases (hY b hm).1 with h4 | h4
  · exact (h2 b hb).2 h4
  · have := h1.2.2 b hb; omega
theorem GOf.beside (h : GOf B w g n G) : GOx B [] w g n G := by obtain ⟨F, h1, h2⟩ := h; exact ⟨F, h1, fun b hb => ⟨h2 b hb, by simp⟩, by simp⟩
theorem GOx.apply (h : GOx B X w g n G) (hB : B ≤ w.heap.size) (x : Ev) (hn : n + 102 ≤ 598134325510144) : Calls Tryz.prog 10 #[.pointer (some ⟨g, 0, none⟩), .agg (evA x)] w fun r w' => r = .returned (.int .i64 (G.dec x).2) ∧ GOx B X w' g (n + 102) (G.app x) ∧ Below B w w' ∧ ∀ b ∈ X, w'.heap[b]? = w.heap[b]? := by
  obtain ⟨F, h1, h2, h3⟩ := h
  refine (h1.apply x hn).mono ?_
  rintro r w' ⟨rfl, F', k1, k2, k3⟩
  refine ⟨rfl, ⟨F', k1, fun b hb => ?_, fun b hb => Nat.lt_of_lt_of_le (h3 b hb) k2.size⟩, k2.below (fun k hk => (h2 k hk).1) hB, fun b hb => k2.block b (h3 b hb) (fun hm => (h2 b hm).2 hb)⟩
  rcases k3 b hb with h4 | h4
  · exact h2 b h4
  · exact ⟨Nat.le_trans hB h4, fun hm => by have := h3 b hm; omega⟩
theorem own_arg {α : Type} {K : Kd α} (hK : K.fit) {base m c : Nat} {a : Option Addr} {l : List α} (h : OwnK K W base (.slice a m c) l) : ArgK K W l a m c := by
  obtain ⟨a', c', e, hA⟩ := h.form hK
  injection e with e1 e2 e3
  subst e1 e2 e3
  exact hA
theorem GOf.ok (h : GOf B W g n G) : GOk n G := by obtain ⟨F, h1, -⟩ := h; exact h1.2.1
theorem GOf.gen (h : GOf B W g n G) : Calls Tryz.prog 9 #[.pointer (some ⟨g, 0, none⟩)] W fun e w' => e = .returned (.int .i64 G.gen) ∧ w' = W := by
  obtain ⟨F, h1, -⟩ := h
  exact Generation_any h1
theorem GOf.offset (h : GOf B W g n G) (k : Nat) (hk : k < 4) : Calls Tryz.prog 12 #[.pointer (some ⟨g, 0, none⟩), .int .i64 (k : Int)] W fun e w' => e = .returned (.tuple #[.int .i64 ((G.off (k : Int)).getD 0), .bool (G.off (k : Int)).isSome]) ∧ w' = W := by
  obtain ⟨F, h1, -⟩ := h
  exact Offset_any h1 (k : Int) (by omega)
theorem GOf.members (h : GOf B W g n G) : Calls Tryz.prog 8 #[.pointer (some ⟨g, 0, none⟩)] W fun e w' => ∃ a c, e = .returned (.slice a G.ks.length c) ∧ OwnK kS w' W.heap.size (.slice a G.ks.length c) G.ks ∧ Below W.heap.size W w' := by
  obtain ⟨F, h1, -⟩ := h
  refine (Members_at h1).mono ?_
  rintro r w' ⟨v, rfl, h2, h3⟩
  obtain ⟨a, c, rfl, -⟩ := h2.form kS_ok.tofit
  exact ⟨a, c, rfl, h2, h3⟩
/-- What the law keeps. -/
structure OIn (w wr : World) (ob g i : Nat) (G : Gp) (P : List Ev) (pa : Option Addr) (pn pc : Nat) : Prop where
  grp : GOx w.heap.size (ob :: (Value.slice pa pn pc).ownBlock.toList) wr g (102 * i) G
  tab : Blk wr ob (ofA G.off) 3
  row : OwnK kER wr w.heap.size (.slice pa pn pc) P
  rel : ORel G P
  len : P.length = pn
  few : pn ≤ i
  all : Below w.heap.size w wr
theorem own_ne {v : Value} {l : List Ev} {base b : Nat} {cs : Array Value} (h : OwnK kER w base v l) (hb : v.ownBlock = some b) (hg : Blk w ob cs 3) : b ≠ ob := own_blk_ne h hb hg (by decide)
theorem OIn.inX (h : OIn w W ob g i G P pa pn pc) : ∀ b ∈ ob :: (Value.slice pa pn pc).ownBlock.toList, b < W.heap.size := by obtain ⟨F, -, -, h3⟩ := h.grp; exact h3
/-- What holds behind Apply: the lists are still those of the group before. -/
structure OMid (w W : World) (ob xbk g i : Nat) (G G' : Gp) (P : List Ev) (pa : Option Addr) (pn pc : Nat) : Prop where
  grp : GOx w.heap.size (xbk :: ob :: (Value.slice pa pn pc).ownBlock.toList) W g (102 * (i + 1)) G'
  tab : Blk W ob (ofA G.off) 3
  row : OwnK kER W w.heap.size (.slice pa pn pc) P
  len : P.length = pn
  few : pn ≤ i
  all : Below w.heap.size w W
theorem OMid.inX {xbk : Nat} (h : OMid w W ob xbk g i G G' P pa pn pc) : ∀ b ∈ xbk :: ob :: (Value.slice pa pn pc).ownBlock.toList, b < W.heap.size := by obtain ⟨F, -, -, h3⟩ := h.grp; exact h3
/-- Apply, with the event in a box of the law's own. -/
theorem OIn.apply (h : OIn w W ob g i G P pa pn pc) (x : Ev) (hi : (i + 1) * 102 ≤ 598134325510144) {W2 : World} (hb : Below W.heap.size W W2) (hx : W.heap.size < W2.heap.size) :
    Calls Tryz.prog 10 #[.pointer (some ⟨g, 0, none⟩), .agg (evA x)] W2 fun r w' => r = .returned (.int .i64 (G.dec x).2) ∧ OMid w w' ob W.heap.size g i G (G.app x) P pa pn pc ∧ w'.heap[W.heap.size]? = W2.heap[W.heap.size]? := by
  have hX : GOx w.heap.size (W.heap.size :: ob :: (Value.slice pa pn pc).ownBlock.toList) W2 g (102 * i) G := h.grp.pick (Chg.of hb) (fun b hb2 => by
    rw [List.mem_cons] at hb2
    rcases hb2 with rfl | hb2
    · exact ⟨Or.inr (Nat.le_refl _), hx⟩
    · exact ⟨Or.inl hb2, Nat.lt_of_lt_of_le (h.inX b hb2) hb.size⟩)
  have hw := h.all.size
  refine (hX.apply (Nat.le_trans hw hb.size) x (by omega)).mono ?_
  rintro r w' ⟨rfl, h1, h2, h3⟩
  have e : 102 * i + 102 = 102 * (i + 1) := by omega
  rw [e] at h1
  refine ⟨rfl, ⟨h1, (h3 ob (by simp)).trans (h.tab.later hb), (h.row.later hb).keep (fun b hb2 => h3 b (by simp [hb2])), h.len, h.few, (h.all.trans (hb.mono hw)).trans h2⟩, h3 _ (by simp)⟩
/-- .. refused: nothing changed. -/
theorem OMid.same {xbk : Nat} (h : OMid w W ob xbk g i G G P pa pn pc) (hr : ORel G P) : OIn w W ob g (i + 1) G P pa pn pc :=
  ⟨h.grp.pick (Chg.refl _ _) (fun b hb => ⟨Or.inl (List.mem_cons_of_mem _ hb), h.inX b (List.mem_cons_of_mem _ hb)⟩), h.tab, h.row, hr, h.len, by have := h.few; omega, h.all⟩
theorem OMid.other {xbk : Nat} (h : OMid w W ob xbk g i G G' P pa pn pc) (ho : G'.off = G.off) (hr : ORel G' P) : OIn w W ob g (i + 1) G' P pa pn pc :=
  ⟨h.grp.pick (Chg.refl _ _) (fun b hb => ⟨Or.inl (List.mem_cons_of_mem _ hb), h.inX b (List.mem_cons_of_mem _ hb)⟩), by rw [ho]; exact h.tab, h.row, hr, h.len, by have := h.few; omega, h.all⟩
/-- .. an offset was stored. -/
theorem OMid.commit {xbk : Nat} (h : OMid w W ob xbk g i G G' P pa pn pc) (p : Nat) (hp : p < 4) (v : Int) (ho : G'.off = setN G.off (p : Int) (some v)) (hr : ORel G' P) (hob : w.heap.size ≤ ob) : OIn w (W.setCell ⟨ob, p, none⟩ (.int .i64 v)) ob g (i + 1) G' P pa pn pc := by
  have hc : Chg [ob] W (W.setCell ⟨ob, p, none⟩ (.int .i64 v)) := (Chg.refl _ _).set (Or.inl (by simp)) p _
  refine ⟨h.grp.pick (hc.mono (fun k hk => by simp at hk; subst hk; simp)) (fun b hb => ⟨Or.inl (List.mem_cons_of_mem _ hb), Nat.lt_of_lt_of_le (h.inX b (List.mem_cons_of_mem _ hb)) hc.size⟩), ?_, h.row.chg hc (fun b hb => by have := own_ne h.row hb h.tab; simpa using this), hr, h.len, by have := h.few; omega, ?_⟩
  · have h1 := h.tab.set p (.int .i64 v)
    rw [ofA_set _ p hp, ← ho] at h1
    exact h1
  · exact h.all.trans (hc.below (fun k hk => by simp at hk; subst hk; exact hob) h.all.size)
/-- .. one is pending besides. -/
theorem OMid.promise {xbk : Nat} (h : OMid w W ob xbk g i G G' P pa pn pc) {y : Ev} (hb : Below W.heap.size W w') {w2 : World} {b3 c3 : Nat} (ho : G'.off = G.off) (hr : ORel G' (P ++ [y])) (hrow : OwnK kER w2 w.heap.size (.slice (some ⟨b3, 0, none⟩) (pn + 1) c3) (P ++ [y])) (hg : w'.grownBy w2 (Value.slice pa pn pc).ownBlock) (hl : (Value.slice pa pn pc).ownBlock = some b3 ∨ b3 = w'.heap.size) : OIn w w2 ob g (i + 1) G' (P ++ [y]) (some ⟨b3, 0, none⟩) (pn + 1) c3 := by
  have hc : Chg (Value.slice pa pn pc).ownBlock.toList w' w2 := grown_chg hg _ (fun b hb => by simp [hb])
  have hc2 : Chg (Value.slice pa pn pc).ownBlock.toList W w2 := (Chg.of hb).trans hc (fun k hk => Or.inl hk)
  have hob : ob ∉ (Value.slice pa pn pc).ownBlock.toList := fun hm => own_ne h.row (by simpa using hm) h.tab rfl
  refine ⟨h.grp.pick (hc2.mono (fun k hk => List.mem_cons_of_mem _ (List.mem_cons_of_mem _ hk))) (fun b hb2 => ?_), ?_, hrow, hr, by rw [List.length_append, h.len]; rfl, by have := h.few; omega, ?_⟩
  · rw [List.mem_cons] at hb2
    rcases hb2 with rfl | hb2
    · exact ⟨Or.inl (by simp), Nat.lt_of_lt_of_le (h.inX _ (by simp)) hc2.size⟩
    · have hb3 : (Value.slice (some ⟨b3, 0, none⟩) (pn + 1) c3).ownBlock = some b := by simpa using hb2
      obtain ⟨h5, h6, -⟩ := hrow.block b hb3
      have hbe : b3 = b := by have h7 : some b3 = some b := hb3; injection h7
      subst hbe
      refine ⟨?_, h6⟩
      rcases hl with h7 | h7
      · exact Or.inl (List.mem_cons_of_mem _ (List.mem_cons_of_mem _ (by rw [h7]; simp)))
      · exact Or.inr (by rw [h7]; exact hb.size)
  · rw [ho]; exact h.tab.chg hc2 hob
  · exact h.all.trans (hc2.below (fun k hk => by exact (h.row.block k (by simpa using hk)).1) h.all.size)
/-- A Mark in its midst: j of what is pending was looked at. -/
structure MIn (w6 wr : World) (ob j : Nat) (G : Gp) (x : Ev) (P : List Ev) (ra : Option Addr) (rn rc : Nat) : Prop where
  tab : Blk wr ob (ofA (offA G x (P.take j))) 3
  row : OwnK kER wr w6.heap.size (.slice ra rn rc) (rstA x (P.take j))
  len : (rstA x (P.take j)).length = rn
  few : rn ≤ j
  chg : Chg [ob] w6 wr
variable {w6 wr : World} {x : Ev} {ra : Option Addr} {rn rc j : Nat}
theorem MIn.new {xbk : Nat} (h : OMid w w6 ob xbk g i G G' P pa pn pc) : MIn w6 w6 ob 0 G x P none 0 0 := by
  refine ⟨?_, ?_, ?_, Nat.le_refl _, Chg.refl _ _⟩
  · rw [List.take_zero, offA_nil]; exact h.tab
  · rw [List.take_zero]; exact OwnK.nil _ _
  · rw [List.take_zero]; rfl
/-- .. what is pending as it lies there. -/
theorem MIn.pend {xbk : Nat} (hm : MIn w6 wr ob j G x P ra rn rc) (h : OMid w w6 ob xbk g i G G' P pa pn pc) : OwnK kER wr w.heap.size (.slice pa pn pc) P := h.row.chg hm.chg (fun b hb => by have := own_ne h.row hb h.tab; simpa using this)
theorem MIn.later (hm : MIn w6 wr ob j G x P ra rn rc) (hb : Below wr.heap.size wr w') : MIn w6 w' ob j G x P ra rn rc := ⟨hm.tab.later hb, hm.row.later hb, hm.len, hm.few, hm.chg.trans (F := [ob]) (G := []) (Chg.of hb) (fun k hk => by cases hk)⟩
theorem MIn.skip (hm : MIn w6 wr ob j G x P ra rn rc) {y : Ev} (hy : P.take (j + 1) = P.take j ++ [y]) (hp : (y.prod == x.prod) = true) (hn : x.yes = false) : MIn w6 wr ob (j + 1) G x P ra rn rc := by
  refine ⟨?_, ?_, ?_, by have := hm.few; omega, hm.chg⟩
  · rw [hy, offA_snoc, hp, hn]; exact hm.tab
  · rw [hy, rstA_snoc, if_pos hp]; exact hm.row
  · rw [hy, rstA_snoc, if_pos hp]; exact hm.len
theorem MIn.put (hm : MIn w6 wr ob j G x P ra rn rc) {y : Ev} (hy : P.take (j + 1) = P.take j ++ [y]) (hp : (y.prod == x.prod) = true) (hn : x.yes = true) (p : Nat) (h4 : p < 4) (hpp : y.part = (p : Int)) (hob : ob < w6.heap.size) : MIn w6 (wr.setCell ⟨ob, p, none⟩ (.int .i64 y.off)) ob (j + 1) G x P ra rn rc := by
  have hc : Chg [ob] wr (wr.setCell ⟨ob, p, none⟩ (.int .i64 y.off)) := (Chg.refl _ _).set (Or.inl (by simp)) p _
  refine ⟨?_, ?_, ?_, by have := hm.few; omega, hm.chg.trans hc (fun k hk => Or.inl hk)⟩
  · have h1 := hm.tab.set p (.int .i64 y.off)
    rw [ofA_set _ p h4] at h1
    rw [hy, offA_snoc, hp, hn, hpp]; exact h1
  · rw [hy, rstA_snoc, if_pos hp]; exact hm.row.chg hc (fun b hb => by have := (hm.row.block b hb).1; simp; omega)
  · rw [hy, rstA_snoc, if_pos hp]; exact hm.len
theorem MIn.more (hm : MIn w6 wr ob j G x P ra rn rc) {y : Ev} (hy : P.take (j + 1) = P.take j ++ [y]) (hp : (y.prod == x.prod) = false) (hb : Below wr.heap.size wr w') {w2 : World} {b3 c3 : Nat} (hrow : OwnK kER w2 w6.heap.size (.slice (some ⟨b3, 0, none⟩) (rn + 1) c3) (rstA x (P.take j) ++ [y])) (hg : w'.grownBy w2 (Value.slice ra rn rc).ownBlock) (hob : ob < w6.heap.size) : MIn w6 w2 ob (j + 1) G x P (some ⟨b3, 0, none⟩) (rn + 1) c3 := by
  have hc : Chg (Value.slice ra rn rc).ownBlock.toList w' w2 := grown_chg hg _ (fun b hb => by simp [hb])
  have hc2 : Chg (Value.slice ra rn rc).ownBlock.toList wr w2 := (Chg.of hb).trans hc (fun k hk => Or.inl hk)
  have hge : ∀ k ∈ (Value.slice ra rn rc).ownBlock.toList, w6.heap.size ≤ k := fun k hk => (hm.row.block k (by simpa using hk)).1
  refine ⟨?_, ?_, ?_, by have := hm.few; omega, hm.chg.trans hc2 (fun k hk => Or.inr (hge k hk))⟩
  · rw [hy, offA_snoc, hp]; exact hm.tab.chg hc2 (fun hk => by have := hge _ hk; omega)
  · rw [hy, rstA_snoc, hp]; exact hrow
  · rw [hy, rstA_snoc, hp]; simp [hm.len]
theorem OMid.mark {xbk : Nat} (h : OMid w w6 ob xbk g i G G' P pa pn pc) (hm : MIn w6 wr ob pn G x P ra rn rc) (ho : G'.off = offA G x P) (hr : ORel G' (rstA x P)) (hob : w.heap.size ≤ ob) : OIn w wr ob g (i + 1) G' (rstA x P) ra rn rc := by
  have e : P.take pn = P := List.take_of_length_le (by rw [h.len]; exact Nat.le_refl _)
  obtain ⟨m1, m2, m3, m4, m5⟩ := hm
  rw [e] at m1 m2 m3
  refine ⟨h.grp.pick (m5.mono (fun k hk => by simp at hk; subst hk; simp)) (fun b hb => ?_), ?_, m2.mono (by have := h.all.size; omega), hr, m3, by have := h.few; omega, h.all.trans (m5.below (fun k hk => by simp at hk; subst hk; exact hob) h.all.size)⟩
  · rw [List.mem_cons] at hb
    rcases hb with rfl | hb
    · exact ⟨Or.inl (by simp), Nat.lt_of_lt_of_le (h.inX _ (by simp)) m5.size⟩
    · obtain ⟨h5, h6, -⟩ := m2.block b (by simpa using hb)
      exact ⟨Or.inr h5, h6⟩
  · rw [ho]; exact m1
/-- 'append(v, x)', v of one's own: with the block in which the answer lies. -/
theorem app_lies {α : Type} {K : Kd α} {ops : Array Oper} {rest : List Oper} {o : Oper} {a : Act} {Q : Exit → Act → World → Prop} (hK : K.ok) (hgd : o.guard = none) (s x : Operand)
    (ho : o.op = .call { callee := .builtin .append, args := #[s, x], argTypes := #[K.S, K.S] })
    (base : Nat) (v : Value) (L : List α) (hs : a.eval s = v) (hown : OwnK K w base v L)
    (gx : Nat) (y : α) (hx : a.eval x = .slice (some ⟨gx, 0, none⟩) 1 1) (hob : RowK K w (some ⟨gx, 0, none⟩) [y]) (k : Nat) (hk : L.length = k)
    (hlen : k + 1 ≤ maxLen) (hbytes : (k + 1) * K.bytes ≤ 140737488355328) (hbase : base ≤ w.heap.size)
    (h : ∀ b cap w', OwnK K w' base (.slice (some ⟨b, 0, none⟩) (k + 1) cap) (L ++ [y]) → w.grownBy w' v.ownBlock → (v.ownBlock = some b ∨ b = w.heap.size) → wpList Tryz.prog ops Q rest (a.put o.dst (.slice (some ⟨b, 0, none⟩) (k + 1) cap)) w') : wpList Tryz.prog ops Q (o :: rest) a w := by
  subst hk
  obtain ⟨i0, hi, hz0, hz1, hz2⟩ := info_parts hK.info
  refine Go.wpList_append_lies w hgd s x K.S ho base K.T i0 _ K.sz K.bytes hK.und hi hz0 hz1 hz2 hK.zsz hK.pos v L.length _ hs hown ⟨gx, 0, none⟩ 1 1 (K.Vs [y]) hx (by rw [hK.tofit.Vs_len]; rfl) (hob.cells hK.tofit _ rfl) (hK.Vs_ones _) (by omega) hlen hbytes hbase w.heap.size rfl ?_
  intro b cap w' h1 h2 h3 _
  rw [← Kd.Vs_append] at h1
  refine h b cap w' ?_ h2 h3
  unfold OwnK
  rw [List.length_append]
  exact h1
/-- An event's nine cells as a row of one. -/
theorem ev_row (W : World) (x : Ev) : RowK kER (W.alloc (.cells (evA x) 31)) (some ⟨W.heap.size, 0, none⟩) [x] := by
  have hb : Blk (W.alloc (.cells (evA x) 31)) W.heap.size _ _ := heap_alloc_new W _
  refine Or.inr ⟨_, 0, rfl, by simp, fun i hi c hc => ?_⟩
  obtain rfl : i = 0 := by simp at hi; omega
  rw [hb.cell]
  simp
theorem own15_cells {base : Nat} {L : List Ev} {a3 : Option Addr} {k c3 : Nat} (h : OwnK kER W base (.slice a3 k c3) L) (hk : 0 < k) : ∃ b off, a3 = some ⟨b, off, none⟩ ∧ k ≤ c3 ∧ c3 ≤ maxLen ∧ ∀ q, q < k → ∀ c, c < 9 → W.cell? ⟨b, off + q * 9 + c, none⟩ = (evA (L.getD q ev0)).toList[c]? := by
  have hA := own_arg kER_fit h
  obtain ⟨b, off, e, hs, hc⟩ := hA.cells hk
  exact ⟨b, off, e, hA.cap, hA.room, hc⟩
end Go.Proofs.YtnloeegaompfdaaGreat
