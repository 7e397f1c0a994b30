/- A book of package txn: plain data, and as it lies in memory. -/
import Derived.Test.YteogogmmnijagaaTEvS
import Derived.Test.YteogogmmnijagaaMapF
import Derived.StringKeys
namespace Go.Proofs.Yteogogmmnijagaa
open Go.RowKit
variable {α : Type} {K : Kd α} {w w' : World}

/-! ### One cell of a struct in the midst of a slice of one's own -/
theorem Vs_setC (hK : K.fit) : ∀ (L : List α) (i c : Nat) (z : α) (u : Value), i < L.length → c < K.sz → K.V z = (K.V (L.getD i K.z)).set c u → (K.Vs L).set (i * K.sz + c) u = K.Vs (L.set i z)
  | [], i, c, z, u, hi, _, _ => by simp at hi
  | a :: L, 0, c, z, u, _, hc, hz => by
    have e : K.Vs (a :: L) = K.V a ++ K.Vs L := rfl
    have e2 : K.Vs ((a :: L).set 0 z) = K.V z ++ K.Vs L := rfl
    have h1 := hK.len a
    rw [e, e2, Nat.zero_mul, Nat.zero_add, List.set_append_left _ _ (by omega), hz]
    rfl
  | a :: L, i + 1, c, z, u, hi, hc, hz => by
    have e : K.Vs (a :: L) = K.V a ++ K.Vs L := rfl
    have e2 : K.Vs ((a :: L).set (i + 1) z) = K.V a ++ K.Vs (L.set i z) := rfl
    have h1 := hK.len a
    have h2 : (i + 1) * K.sz + c = i * K.sz + c + K.sz := by rw [Nat.add_mul]; omega
    rw [e, e2, h2, List.set_append_right _ _ (by omega), h1, Nat.add_sub_cancel, Vs_setC hK L i c z u (by simp at hi; omega) hc (by simpa using hz)]
theorem OwnK.opened {base g m cap : Nat} {L : List α} (h : OwnK K w base (.slice (some ⟨g, 0, none⟩) m cap) L) : ∃ cur, w.heap[g]? = some (.cells cur K.T (0, 0)) ∧ L.length = m ∧ m ≤ cap ∧ cap ≤ maxLen ∧ cap * K.sz ≤ cur.size ∧ cur.toList.take (m * K.sz) = K.Vs L ∧ base ≤ g := by
  rcases h.2 with ⟨e, -⟩ | ⟨g', cap', cur, e, hb, hg, h1, h2, h3, h4⟩
  · cases e
  · injection e with e1 e2 e3
    injection e1 with e1
    injection e1 with e1
    subst e1 e3 e2
    exact ⟨cur, hg, rfl, h1, h2, by omega, h4, hb⟩
theorem OwnK.setC {base g m cap : Nat} {L : List α} (hK : K.fit) (h : OwnK K w base (.slice (some ⟨g, 0, none⟩) m cap) L) (i : Nat) (hi : i < m) (c : Nat) (hc : c < K.sz) (z : α) (u : Value) (hz : K.V z = (K.V (L.getD i K.z)).set c u) :
    OwnK K (w.setCell ⟨g, i * K.sz + c, none⟩ u) base (.slice (some ⟨g, 0, none⟩) m cap) (L.set i z) := by
  rcases h.2 with ⟨e, -⟩ | ⟨g', cap', cur, e, hb, hg, h1, h2, h3, h4⟩
  · cases e
  · injection e with e1 e2 e3
    injection e1 with e1
    injection e1 with e1
    subst e1 e3
    have hb2 : Blk w g cur K.T := hg
    have hs := hb2.set (i * K.sz + c) u
    unfold OwnK
    rw [List.length_set]
    refine ⟨by rw [hK.Vs_len, List.length_set], .inr ⟨g, cap, cur.setIfInBounds (i * K.sz + c) u, by rw [e2], hb, hs, h1, h2, by simpa using h3, ?_⟩⟩
    rw [Array.toList_setIfInBounds, ← Vs_setC hK L i c z u (by omega) hc hz, ← h4, List.take_set]
/-! ### Plain data -/
/-- A producer. -/
structure Pr where
  tmo : Int
  ep : Int
  st : Int
  since : Int
  pl : List Int
/-- A book: its producers by their numbers, and whose name has which number. -/
structure Bk where
  ps : List Pr
  num : Nm → Option Nat
def pr0 : Pr := ⟨0, 0, 0, 0, []⟩
def Bk.at (B : Bk) (i : Nat) : Pr := B.ps.getD i pr0
structure PrOk (p : Pr) : Prop where
  tmo : 0 ≤ p.tmo ∧ p.tmo ≤ 3600
  ep : 0 ≤ p.ep ∧ p.ep ≤ 2147483647
  st : p.st = 0 ∨ p.st = 1 ∨ p.st = 2 ∨ p.st = 3
  since : inN p.since
  rise : p.pl.Pairwise (· < ·)
  cnt : p.pl.length ≤ 100
structure BkOk (B : Bk) : Prop where
  cnt : B.ps.length ≤ 1000
  num : ∀ nm i, B.num nm = some i → i < B.ps.length
  pr : ∀ p ∈ B.ps, PrOk p
theorem pr0_ok : PrOk pr0 := ⟨by simp [pr0], by simp [pr0], by simp [pr0], by simp [pr0, inN], by simp [pr0], by simp [pr0]⟩
theorem BkOk.at {B : Bk} (h : BkOk B) (i : Nat) : PrOk (B.at i) := by
  unfold Bk.at
  rw [List.getD_eq_getElem?_getD]
  cases hq : B.ps[i]? with
  | none => exact pr0_ok
  | some p => exact h.pr p (List.mem_of_getElem? hq)
/-! ### Memory -/
abbrev TBk : TypeId := 52
abbrev TPr : TypeId := 71
abbrev TNi : TypeId := 49
abbrev kPr : Kd (Pr × Sl) := ⟨TPr, 50, 5, 56, fun x => [.int .i64 x.1.tmo, .int .i64 x.1.ep, .int .i64 x.1.st, .int .i64 x.1.since, .slice x.2.ad x.2.m x.2.c], (pr0, sl0), .agg #[.int .i64 0, .int .i64 0, .int .i64 0, .int .i64 0, .slice none 0 0]⟩
theorem kPr_ok : kPr.ok := ⟨⟨fun _ => rfl, by decide⟩, fun a v hv => by (have : v = .int .i64 a.1.tmo ∨ v = .int .i64 a.1.ep ∨ v = .int .i64 a.1.st ∨ v = .int .i64 a.1.since ∨ v = .slice a.2.ad a.2.m a.2.c := by simpa using hv); rcases this with rfl | rfl | rfl | rfl | rfl <;> rfl, by kernel_rfl, rfl, Try.underlying50⟩
theorem keyN : Maps.Keyed Try.prog 9 := Maps.string_keyed Try.underlying9
theorem keyOf_n (s : Nm) (hs : s.length ≤ maxLen) : keyOf Try.prog 9 (.string (nmS s)) = some (.string s) := by
  rw [Go.WideMaps.keyOf_string_mk Try.underlying9 (by simp [nmS, ByteArray.size]; exact hs)]
  rfl
def numF (f : Nm → Option Nat) : Lit → Option Value
  | .string nm => (f nm).map fun (n : Nat) => (Value.int .i64 (n : Int))
  | _ => none
theorem numF_str (f : Nm → Option Nat) (nm : Nm) : numF f (.string nm) = (f nm).map (fun (n : Nat) => (Value.int .i64 (n : Int))) := rfl
open Classical in
/-- f, but for one key. -/
noncomputable def setN {α β : Type} (f : α → Option β) (k : α) (x : Option β) : α → Option β := fun q => if q = k then x else f q
theorem setN_same {α β : Type} (f : α → Option β) (k : α) (x : Option β) : setN f k x k = x := by simp [setN]
theorem setN_other {α β : Type} (f : α → Option β) {q k : α} (h : q ≠ k) (x : Option β) : setN f k x q = f q := by simp [setN, h]
theorem numF_set (f : Nm → Option Nat) (nm : Nm) (n : Nat) : ∀ kl, updF (numF f) (.string nm) (some (.int .i64 (n : Int))) kl = numF (setN f nm (some n)) kl := by
  intro kl
  by_cases h : kl = .string nm
  · subst h; rw [updF_same]; simp [numF, setN_same]
  · rw [updF_other _ h]
    unfold numF
    split
    · rename_i q
      have hq : q ≠ nm := fun e => h (by rw [e])
      rw [setN_other _ hq]
    · rfl
/-- In w the block g is the book B: its map lies at M, its producers in v; Z has their places besides, as slices; all its blocks are among F. -/
structure BP (w : World) (F : List Nat) (g M : Nat) (v : Value) (Z : List (Pr × Sl)) (B : Bk) : Prop where
  box : Blk w g #[v, .map (some M)] TBk
  map : MapF w 9 M B.ps.length (numF B.num)
  row : OwnK kPr w 0 v Z
  ps : Z.map (·.1) = B.ps
  pl : ∀ (i : Nat) (z : Pr × Sl), Z[i]? = some z → OwnK kZ w 0 z.2.v z.1.pl
  apart : ∀ (i j : Nat) (z y : Pr × Sl) (b : Nat), Z[i]? = some z → Z[j]? = some y → z.2.v.ownBlock = some b → y.2.v.ownBlock = some b → i = j
  inG : g ∈ F
  inM : M ∈ F
  inV : ∀ b, v.ownBlock = some b → b ∈ F
  inP : ∀ (i : Nat) (z : Pr × Sl) (b : Nat), Z[i]? = some z → z.2.v.ownBlock = some b → b ∈ F
variable {F F' : List Nat} {g M pb m c : Nat} {v : Value} {Z : List (Pr × Sl)} {B : Bk}
theorem BP.keep (h : BP w F g M v Z B) (hk : ∀ b ∈ F, b < w.heap.size → w'.heap[b]? = w.heap[b]?) : BP w' F g M v Z B :=
  ⟨(hk g h.inG h.box.lt).trans h.box, h.map.keep (hk _ h.inM h.map.lt), h.row.keep (fun b hb => hk b (h.inV b hb) (h.row.block b hb).2.1), h.ps,
   fun i z hz => (h.pl i z hz).keep (fun b hb => hk b (h.inP i z b hz hb) ((h.pl i z hz).block b hb).2.1), h.apart, h.inG, h.inM, h.inV, h.inP⟩
theorem BP.later (h : BP w F g M v Z B) (hb : Below w.heap.size w w') : BP w' F g M v Z B := h.keep (fun b _ hl => hb.block b hl)
theorem BP.chg {X : List Nat} (h : BP w F g M v Z B) (hc : Chg X w w') (hn : ∀ b ∈ F, b ∉ X) : BP w' F g M v Z B := h.keep (fun b hb hl => hc.block b hl (hn b hb))
theorem BP.wide (h : BP w F g M v Z B) (hF : ∀ b ∈ F, b ∈ F') : BP w F' g M v Z B := ⟨h.box, h.map, h.row, h.ps, h.pl, h.apart, hF _ h.inG, hF _ h.inM, fun b hb => hF b (h.inV b hb), fun i z b hz hb => hF b (h.inP i z b hz hb)⟩
theorem BP.len (h : BP w F g M v Z B) : Z.length = B.ps.length := by rw [← h.ps, List.length_map]
theorem BP.get (h : BP w F g M v Z B) {i : Nat} (hi : i < B.ps.length) : ∃ s, Z[i]? = some (B.at i, s) ∧ OwnK kZ w 0 s.v (B.at i).pl ∧ Z.getD i (pr0, sl0) = (B.at i, s) := by
  have hz : i < Z.length := by rw [h.len]; exact hi
  have e1 : Z[i]? = some Z[i] := List.getElem?_eq_getElem hz
  have e2 : B.at i = Z[i].1 := by
    unfold Bk.at
    rw [← h.ps, List.getD_eq_getElem?_getD, List.getElem?_map, e1]; rfl
  refine ⟨Z[i].2, by rw [e1, e2], by rw [e2]; exact h.pl i _ e1, ?_⟩
  rw [List.getD_eq_getElem?_getD, e1, e2]; rfl
theorem blk_map_ne {cs : Array Value} {T K : TypeId} {f : Lit → Option Value} {n : Nat} (h : Blk w g cs T) (hm : MapF w K M n f) : g ≠ M := by
  rintro rfl
  obtain ⟨es, c, hm⟩ := hm.isMap
  unfold Blk at h
  rw [h] at hm; cases hm
theorem own_map_ne {β : Type} {Kk : Kd β} {v : Value} {l : List β} {base b : Nat} {K : TypeId} {f : Lit → Option Value} {n : Nat} (h : OwnK Kk w base v l) (hb : v.ownBlock = some b) (hm : MapF w K M n f) : b ≠ M := by
  rintro rfl
  obtain ⟨es, c, hm⟩ := hm.isMap
  obtain ⟨-, -, cur, hc⟩ := h.block b hb
  rw [hc] at hm; cases hm
theorem own_blk_ne {β : Type} {Kk : Kd β} {v : Value} {l : List β} {base b : Nat} {cs : Array Value} {T : TypeId} (h : OwnK Kk w base v l) (hb : v.ownBlock = some b) (hg : Blk w g cs T) (hT : Kk.T ≠ T) : b ≠ g := by
  rintro rfl
  obtain ⟨-, -, cur, hc⟩ := h.block b hb
  unfold Blk at hg
  rw [hg] at hc
  injection hc with hc
  injection hc with h1 h2 h3
  exact hT h2.symm
theorem own_own_ne {β γ : Type} {Kk : Kd β} {Kl : Kd γ} {v u : Value} {l : List β} {m : List γ} {base base' b : Nat} (h : OwnK Kk w base v l) (hb : v.ownBlock = some b) (h' : OwnK Kl w base' u m) (hT : Kk.T ≠ Kl.T) : u.ownBlock ≠ some b := by
  intro e
  obtain ⟨-, -, cur, hc⟩ := h.block b hb
  obtain ⟨-, -, cur', hc'⟩ := h'.block b e
  rw [hc'] at hc
  injection hc with hc
  injection hc with h1 h2 h3
  exact hT h2.symm
/-- The producers' own slice, where one is there. -/
theorem BP.form (h : BP w F g M v Z B) (hp : 0 < B.ps.length) : ∃ pb c, v = .slice (some ⟨pb, 0, none⟩) B.ps.length c ∧ v.ownBlock = some pb := by
  rcases h.row.2 with ⟨e, h0⟩ | ⟨pb, cap, cur, e, -⟩
  · have := h.len; omega
  · exact ⟨pb, cap, by rw [e, h.len], by rw [e]; rfl⟩
/-- The cells of a producer. -/
theorem BP.cells (h : BP w F g M (.slice (some ⟨pb, 0, none⟩) m c) Z B) {i : Nat} (hi : i < B.ps.length) {s : Sl} (hs : Z[i]? = some (B.at i, s)) :
    w.cell? ⟨pb, i * 5, none⟩ = some (.int .i64 (B.at i).tmo) ∧ w.cell? ⟨pb, i * 5 + 1, none⟩ = some (.int .i64 (B.at i).ep) ∧ w.cell? ⟨pb, i * 5 + 2, none⟩ = some (.int .i64 (B.at i).st) ∧ w.cell? ⟨pb, i * 5 + 3, none⟩ = some (.int .i64 (B.at i).since) ∧ w.cell? ⟨pb, i * 5 + 4, none⟩ = some (.slice s.ad s.m s.c) ∧ ∀ j, w.frozen? ⟨pb, j, none⟩ = false := by
  obtain ⟨cur, h1, h2, -, -, h5, h6, -⟩ := h.row.opened
  have hz : i < Z.length := by rw [h.len]; exact hi
  have hg : ∀ cc, cc < 5 → w.cell? ⟨pb, i * 5 + cc, none⟩ = (kPr.V (B.at i, s))[cc]? := fun cc hcc => by
    have e1 := kPr_ok.tofit.Vs_get Z i cc hz hcc
    rw [List.getD_eq_getElem?_getD, hs] at e1
    have e2 : cur.toList[i * 5 + cc]? = (kPr.Vs Z)[i * 5 + cc]? := by
      rw [← h6, List.getElem?_take_of_lt]
      have : (i + 1) * 5 ≤ m * 5 := Nat.mul_le_mul_right _ (by omega)
      show i * 5 + cc < m * 5
      omega
    rw [cell_of_row _ _ _ _ _ _ h1, ← Array.getElem?_toList, e2]
    exact e1
  refine ⟨hg 0 (by omega), hg 1 (by omega), hg 2 (by omega), hg 3 (by omega), hg 4 (by omega), fun j => ?_⟩
  simp [World.frozen?, h1]
theorem map_set_fst (Z : List (Pr × Sl)) (i : Nat) (z : Pr × Sl) : (Z.set i z).map (·.1) = (Z.map (·.1)).set i z.1 := by rw [List.map_set]
/-- A producer's numbers set anew, cell by cell: what a store leaves. -/
theorem BP.setC (h : BP w F g M (.slice (some ⟨pb, 0, none⟩) m c) Z B) {i : Nat} (hi : i < B.ps.length) {s : Sl} (hs : Z[i]? = some (B.at i, s)) (cc : Nat) (hcc : cc < 5) (p : Pr) (s' : Sl) (u : Value) (hv : kPr.V (p, s') = (kPr.V (B.at i, s)).set cc u)
    (hpl : OwnK kZ w 0 s'.v p.pl) (hap : ∀ b, s'.v.ownBlock = some b → b ∈ F ∧ ∀ (j : Nat) (y : Pr × Sl), j ≠ i → Z[j]? = some y → y.2.v.ownBlock ≠ some b) :
    BP (w.setCell ⟨pb, i * 5 + cc, none⟩ u) F g M (.slice (some ⟨pb, 0, none⟩) m c) (Z.set i (p, s')) { B with ps := B.ps.set i p } := by
  have hc : Chg [pb] w (w.setCell ⟨pb, i * 5 + cc, none⟩ u) := (Chg.refl _ _).set (Or.inl (by simp)) _ u
  have hlm : Z.length = m := by obtain ⟨cur, -, h2, -⟩ := h.row.opened; exact h2
  have hob : (Value.slice (some ⟨pb, 0, none⟩) m c).ownBlock = some pb := rfl
  have hgd : Z.getD i kPr.z = (B.at i, s) := by rw [List.getD_eq_getElem?_getD, hs]; rfl
  have hset : ∀ (j : Nat) (y : Pr × Sl), (Z.set i (p, s'))[j]? = some y → (j = i ∧ y = (p, s')) ∨ (j ≠ i ∧ Z[j]? = some y) := fun j y hy => by
    by_cases e : j = i
    · subst e
      rw [List.getElem?_set_self (by rw [h.len]; exact hi)] at hy
      exact Or.inl ⟨rfl, (Option.some.inj hy).symm⟩
    · rw [List.getElem?_set_ne (fun h => e h.symm)] at hy
      exact Or.inr ⟨e, hy⟩
  refine ⟨h.box.chg hc ?_, ?_, h.row.setC kPr_ok.tofit i (by rw [← hlm, h.len]; exact hi) cc hcc (p, s') u (by rw [hgd]; exact hv), by rw [map_set_fst, h.ps], fun j y hy => ?_, fun j k y x b hy hx hb hb' => ?_, h.inG, h.inM, h.inV, fun j y b hy hb => ?_⟩
  · have := own_blk_ne h.row hob h.box (by decide); simp; omega
  · show MapF _ _ _ (B.ps.set i p).length _
    rw [List.length_set]
    exact h.map.keep (hc.block M h.map.lt (by have := own_map_ne h.row hob h.map; simp; omega))
  · rcases hset j y hy with ⟨rfl, rfl⟩ | ⟨-, hz⟩
    · exact hpl.chg hc (fun b hb => by have := own_own_ne hpl hb h.row (by decide); intro hm; simp at hm; subst hm; exact this hob)
    · exact (h.pl j y hz).chg hc (fun b hb => by have := own_own_ne (h.pl j y hz) hb h.row (by decide); intro hm; simp at hm; subst hm; exact this hob)
  · rcases hset j y hy with ⟨rfl, rfl⟩ | ⟨nj, hz⟩
    · rcases hset k x hx with ⟨rfl, rfl⟩ | ⟨nk, hz'⟩
      · rfl
      · exact absurd hb' ((hap b hb).2 k x nk hz')
    · rcases hset k x hx with ⟨rfl, rfl⟩ | ⟨nk, hz'⟩
      · exact absurd hb ((hap b hb').2 j y nj hz)
      · exact h.apart j k y x b hz hz' hb hb'
  · rcases hset j y hy with ⟨rfl, rfl⟩ | ⟨-, hz⟩
    · exact (hap b hb).1
    · exact h.inP j y b hz hb
/-- A book somewhere: its blocks are among F. -/
def BAt (w : World) (F : List Nat) (g : Nat) (B : Bk) : Prop := (∃ M v Z, BP w F g M v Z B) ∧ BkOk B ∧ ∀ b ∈ F, b < w.heap.size
/-- What a call leaves of a book. -/
def BMv (w w' : World) (F : List Nat) (g : Nat) (B : Bk) : Prop := ∃ F', BAt w' F' g B ∧ Chg F w w' ∧ ∀ b ∈ F', b ∈ F ∨ w.heap.size ≤ b
theorem BAt.later (h : BAt w F g B) (hb : Below w.heap.size w w') : BAt w' F g B := by
  obtain ⟨⟨M, v, Z, h1⟩, h2, h3⟩ := h
  exact ⟨⟨M, v, Z, h1.later hb⟩, h2, fun b hb' => Nat.lt_of_lt_of_le (h3 b hb') hb.size⟩
theorem BAt.chg {X : List Nat} (h : BAt w F g B) (hc : Chg X w w') (hn : ∀ b ∈ F, b ∉ X) : BAt w' F g B := by
  obtain ⟨⟨M, v, Z, h1⟩, h2, h3⟩ := h
  exact ⟨⟨M, v, Z, h1.chg hc hn⟩, h2, fun b hb' => Nat.lt_of_lt_of_le (h3 b hb') hc.size⟩
theorem BMv.of (h : BAt w F g B) (hb : Below w.heap.size w w') : BMv w w' F g B := ⟨F, h.later hb, Chg.of hb, fun _ h => Or.inl h⟩
theorem zeroI (w : World) : (zeroValue 3).run Try.prog w = .ok (.int .i64 0) w := Try.zeroValue3 w
theorem BP.look_ok (h : BP w F g M v Z B) (nm : Nm) (hs : nm.length ≤ maxLen) : (Instr.lookup TNi (.map (some M)) (.string (nmS nm)) true).run Try.prog w = .ok (.tuple #[.int .i64 (((B.num nm).getD 0 : Nat) : Int), .bool (B.num nm).isSome]) w := by
  rw [h.map.look_ok keyN Try.underlying49 (zeroI w) (keyOf_n nm hs)]
  rw [numF_str]
  cases B.num nm <;> rfl
end Go.Proofs.Yteogogmmnijagaa
