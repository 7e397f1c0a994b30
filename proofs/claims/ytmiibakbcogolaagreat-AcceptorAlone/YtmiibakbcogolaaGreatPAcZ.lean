/- Two acceptors beside each other, and boxes of the caller's own. What the Asks that name a version make of what is known, and of a store with room: asked of each of them. -/
import Derived.Test.YtmiibakbcogolaaGreatPAcQ
import Derived.Test.YtmiibakbcogolaaGreatPAcG
import Derived.Test.YtmiibakbcogolaaGreatAcAsk3
import Derived.Test.YtmiibakbcogolaaGreatAcLearn
namespace Go.Proofs.YtmiibakbcogolaaGreat.Ac
open Go.RowKit Go.Shelf Crcm

/-- A box: its block, its cells, its type. -/
abbrev Bx := Nat × Array Value × TypeId
/-- Two acceptors made by a call that began in w0, boxes X of its own beside them, and texts Y that are none of the second one's. -/
structure K2 (w0 w : World) (Ba Bc : Nat) (sa sc : SSt) (ka kc : Nat → Nat → Option Kn) (X : List Bx) (Y : List Part) : Prop where
  up : ∃ Fa Fc, AUp w Fa Ba sa ka ∧ AUp w Fc Bc sc kc ∧ (∀ g ∈ Fa, w0.heap.size ≤ g) ∧ (∀ g ∈ Fc, w0.heap.size ≤ g) ∧ (∀ g ∈ Fa, g ∉ Fc) ∧ (∀ x ∈ X, x.1 ∉ Fa ∧ x.1 ∉ Fc) ∧ ∀ y ∈ Y, ∀ b off, y.ad = some ⟨b, off, none⟩ → b ∉ Fc
  box : ∀ x ∈ X, Blk w x.1 x.2.1 x.2.2
  text : ∀ y ∈ Y, y.ok w
  below : Below w0.heap.size w0 w
variable {w0 w w' : World} {Ba Bc : Nat} {sa sc s' : SSt} {ka kc kn' : Nat → Nat → Option Kn} {X : List Bx} {Y : List Part}
theorem K2.later (h : K2 w0 w Ba Bc sa sc ka kc X Y) (hb : Below w.heap.size w w') : K2 w0 w' Ba Bc sa sc ka kc X Y := by
  obtain ⟨Fa, Fc, h1, h2, h3, h4, h5, h6, h7⟩ := h.up
  exact ⟨⟨Fa, Fc, h1.later hb, h2.later hb, h3, h4, h5, h6, h7⟩, fun x hx => (h.box x hx).later hb, fun y hy => (h.text y hy).later hb, h.below.trans (hb.mono h.below.size)⟩
theorem K2.alloc (h : K2 w0 w Ba Bc sa sc ka kc X Y) (cs : Array Value) (T : TypeId) : K2 w0 (w.alloc (.cells cs T)) Ba Bc sa sc ka kc ((w.heap.size, cs, T) :: X) Y := by
  have hb : Below w.heap.size w (w.alloc (.cells cs T)) := (Below.refl _ _).alloc (Nat.le_refl _) _
  have h' := h.later hb
  obtain ⟨Fa, Fc, h1, h2, h3, h4, h5, h6, h7⟩ := h.up
  have hla := h1.lt
  have hlc := h2.lt
  refine ⟨⟨Fa, Fc, h1.later hb, h2.later hb, h3, h4, h5, fun x hx => ?_, h7⟩, fun x hx => ?_, h'.text, h'.below⟩
  · simp only [List.mem_cons] at hx
    rcases hx with rfl | hx
    · exact ⟨fun hm => absurd (hla _ hm) (by simp), fun hm => absurd (hlc _ hm) (by simp)⟩
    · exact h6 x hx
  · simp only [List.mem_cons] at hx
    rcases hx with rfl | hx
    · exact heap_alloc_last w _
    · exact h'.box x hx
theorem K2.drop (h : K2 w0 w Ba Bc sa sc ka kc X Y) : K2 w0 w Ba Bc sa sc ka kc [] [] := by
  obtain ⟨Fa, Fc, h1, h2, h3, h4, h5, h6, h7⟩ := h.up
  exact ⟨⟨Fa, Fc, h1, h2, h3, h4, h5, fun x hx => (by cases hx), fun x hx => (by cases hx)⟩, fun x hx => (by cases hx), fun x hx => (by cases hx), h.below⟩
/-- A call on the first one. -/
theorem K2.askA {v : Value} {e ve pe be : Nat} {se : Bool} {vl : List Nat} (h : K2 w0 w Ba Bc sa sc ka kc X []) (hc : ∀ F, AUp w F Ba sa ka → Calls Tryz.prog 33 #[.pointer (some ⟨Ba, 0, none⟩), v] w (AskedPost F Ba s' kn' e ve pe be se vl w)) :
    Calls Tryz.prog 33 #[.pointer (some ⟨Ba, 0, none⟩), v] w fun x w' => ∃ r : Part, x = .returned (.tuple #[.agg #[.int .i64 (e : Int), .int .i64 (ve : Int), .int .i64 (pe : Int), .int .i64 (be : Int), .bool se, .slice r.ad r.len r.cap], .bool true]) ∧ Hid (r.l = vl) ∧ Hid (K2 w0 w' Ba Bc s' sc kn' kc X [r]) := by
  obtain ⟨Fa, Fc, h1, h2, h3, h4, h5, h6, h7⟩ := h.up
  refine (hc Fa h1).mono ?_
  rintro x w' ⟨r, rfl, e1, m1, nw⟩
  obtain ⟨⟨F', n1, hF'⟩, hch⟩ := m1.out
  have hla := h1.lt
  have hlc := h2.lt
  refine ⟨r, rfl, hid e1.out.1, hid ⟨⟨F', Fc, n1, h2.keepF (fun g hg => hch.block g (hlc g hg) (fun hm => h5 g hm hg)) hch.size, fun g hg => ?_, h4, fun g hg hm => ?_, fun x hx => ⟨fun hm => ?_, (h6 x hx).2⟩, fun y hy b off ey hm => ?_⟩, fun x hx => (h.box x hx).chg hch (h6 x hx).1, fun y hy => ?_, ?_⟩⟩
  · exact (hF' g hg).elim (h3 g) (fun hh => Nat.le_trans h.below.size hh)
  · exact (hF' g hg).elim (fun hh => h5 g hh hm) (fun hh => absurd (hlc g hm) (by omega))
  · exact (hF' _ hm).elim (h6 x hx).1 (fun hh => absurd (h.box x hx).lt (by omega))
  · simp only [List.mem_cons, List.not_mem_nil, or_false] at hy
    subst hy
    exact absurd (hlc b hm) (by have := nw.out b off ey; omega)
  · simp only [List.mem_cons, List.not_mem_nil, or_false] at hy
    subst hy
    exact e1.out.2
  · exact h.below.trans (hch.below h3 h.below.size)
/-- A call on the second one. -/
theorem K2.askC {v : Value} {e ve pe be : Nat} {se : Bool} {vl : List Nat} (h : K2 w0 w Ba Bc sa sc ka kc X Y) (hc : ∀ F, AUp w F Bc sc kc → Calls Tryz.prog 33 #[.pointer (some ⟨Bc, 0, none⟩), v] w (AskedPost F Bc s' kn' e ve pe be se vl w)) :
    Calls Tryz.prog 33 #[.pointer (some ⟨Bc, 0, none⟩), v] w fun x w' => ∃ r : Part, x = .returned (.tuple #[.agg #[.int .i64 (e : Int), .int .i64 (ve : Int), .int .i64 (pe : Int), .int .i64 (be : Int), .bool se, .slice r.ad r.len r.cap], .bool true]) ∧ Hid (r.l = vl ∧ r.ok w' ∧ ∀ y ∈ Y, y.ok w') ∧ Hid (K2 w0 w' Ba Bc sa s' ka kn' X []) := by
  obtain ⟨Fa, Fc, h1, h2, h3, h4, h5, h6, h7⟩ := h.up
  refine (hc Fc h2).mono ?_
  rintro x w' ⟨r, rfl, e1, m1, -⟩
  obtain ⟨⟨F', n1, hF'⟩, hch⟩ := m1.out
  have hla := h1.lt
  have hlc := h2.lt
  refine ⟨r, rfl, hid ⟨e1.out.1, e1.out.2, fun y hy => (h.text y hy).chg hch (fun b off ey _ => h7 y hy b off ey)⟩, hid ⟨⟨Fa, F', h1.keepF (fun g hg => hch.block g (hla g hg) (fun hm => h5 g hg hm)) hch.size, n1, h3, fun g hg => ?_, fun g hg hm => ?_, fun x hx => ⟨(h6 x hx).1, fun hm => ?_⟩, fun y hy => (by cases hy)⟩, fun x hx => (h.box x hx).chg hch (h6 x hx).2, fun y hy => (by cases hy), ?_⟩⟩
  · exact (hF' g hg).elim (h4 g) (fun hh => Nat.le_trans h.below.size hh)
  · exact (hF' g hm).elim (fun hh => h5 g hg hh) (fun hh => absurd (hla g hg) (by omega))
  · exact (hF' _ hm).elim (h6 x hx).2 (fun hh => absurd (h.box x hx).lt (by omega))
  · exact h.below.trans (hch.below h4 h.below.size)
end Go.Proofs.YtmiibakbcogolaaGreat.Ac
namespace Go.Proofs.YtmiibakbcogolaaGreat.Ac
open Go.RowKit Go.Shelf Crcm
variable {w w' W : World} {F : List Nat} {B : Nat} {s : SSt} {kn : Nat → Nat → Option Kn}

/-- P803 for Prepare, Accept and Learn. -/
def ruleN (kind : Nat) (k : Kn) (b : Nat) (l : List Nat) : Nat × Kn := if kind = 1 then prepN k b else if kind = 2 then accN k b l else learnN k l
theorem ruleN_cases (kind : Nat) (k : Kn) (b : Nat) (l : List Nat) : ruleN kind k b l = (34, k) ∨ (ruleN kind k b l).1 = 0 := by
  unfold ruleN prepN accN learnN
  split
  · split
    · exact Or.inl rfl
    · exact Or.inr rfl
  · split
    · split
      · exact Or.inl rfl
      · split <;> exact Or.inr rfl
    · split <;> exact Or.inr rfl
/-- A Kn of few bytes. -/
structure Kn.few (k : Kn) : Prop where
  ok : k.ok
  len : k.v.length ≤ 100
theorem ruleN_few (kind : Nat) {k : Kn} {b : Nat} {l : List Nat} (hk : k.few) (hb : b < 281474976710656) (hl : l.length ≤ 100) (h8 : ∀ x ∈ l, x < 256) : (ruleN kind k b l).2.few := by
  have h1 := hk.ok.p
  have h2 := hk.ok.b
  unfold ruleN prepN accN learnN
  split
  · split
    · exact hk
    · exact ⟨⟨hb, h2, hk.ok.len, hk.ok.lt⟩, hk.len⟩
  · split
    · split
      · exact hk
      · split
        · exact hk
        · exact ⟨⟨hb, hb, by simp only; omega, h8⟩, hl⟩
    · split
      · exact hk
      · exact ⟨⟨h1, by simp only; omega, by simp only; omega, h8⟩, hl⟩
theorem go_3 (hu : AUp W F B s kn) (g v b : Nat) (l : List Nat) (hm : askMay 3 g v b l.length = true) (q : Part) (hq : q.l = frameBs 3 (askN 3 g v b l)) (hk : q.ok W) (hlc : q.len ≤ q.cap)
    (k' : Kn) (hr : learnN (knAt kn g v) l = (0, k')) (s' : SSt) (hkeep : ∀ (W : World) (F : List Nat) (B : Nat), AUp W F B s kn → Calls Tryz.prog 63 #[.pointer (some ⟨B, 0, none⟩), .agg #[.int .i64 (g : Int), .int .i64 (v : Int)], knV k'] W fun x w' => x = .returned (.int .i64 0) ∧ AMoved F B s' (knTo kn g v k') W w') :
    Calls Tryz.prog 29 #[.pointer (some ⟨B, 0, none⟩), .slice q.ad q.len q.cap] W (APost F B s' (knTo kn g v k') (frameBs 4 (ansN 0 v k'.p k'.b k'.s.toNat k'.v)) W) := by
  obtain ⟨u1, u2, u3, a1, a2, a3, a4, a5⟩ := frame_facts 3 g v b l hm
  obtain ⟨h1, h2, h3, h4, h5⟩ := askMay_lim hm
  have hlen := frame_len 3 g v b l hm hq hk
  have r := ask_3 hu q.ad q.len q.cap q.l hk hlc hlen (by rw [hq]; exact u1) (by rw [hq, u2]; exact u3) (by rw [hq, u2]; exact a1) v h3 k' 0 (by omega) (by omega) s' (knTo kn g v k')
    (fun W ga o n c _ => by rw [hq, u2, a2, a3, a4]; exact about_any _ _ _ _ _ _ _ _ (by simp) _)
    (fun W ga o n c hp => by
      rw [hq, u2, a2, a3, a4]
      rw [hq, u2, a5] at hp
      have r := learn_any (knAt kn g v) 3 (g : Int) (v : Int) (b : Int) (some ⟨ga, o, none⟩) n c l W hp
      rw [hr] at r
      exact r)
    (fun W hW => by rw [hq, u2, a2]; exact hkeep W F B hW)
  rw [hq, u2, a2] at r
  rw [knTo_at] at r
  exact r
/-- A store and what is known beside it, behind at most n Asks of few bytes. -/
structure Side (s : SSt) (kn : Nat → Nat → Option Kn) (n : Nat) : Prop where
  inv : Inv s
  few : ∀ g v, (knAt kn g v).few
  fin : s.fin ≤ n
  tail : ∀ g, (s.log g).tail ≤ n
  len : s.d.bs.length = 300
theorem kn0_few : kn0.few := ⟨kn0_ok, by simp [kn0]⟩
theorem side0 : Side (sst0 (newD 300)) kn00 0 :=
  ⟨inv0 300, fun _ _ => kn0_few, Nat.le_refl _, fun _ => Nat.le_refl _, List.length_replicate⟩
theorem knTo_other' (kn : Nat → Nat → Option Kn) (g v : Nat) (k : Kn) (g' v' : Nat) (h : ¬ (g' = g ∧ v' = v)) : knAt (knTo kn g v k) g' v' = knAt kn g' v' := by
  unfold knAt
  rw [knTo_other _ _ _ _ _ _ h]
theorem Side.mono {n m : Nat} (h : Side s kn n) (hm : n ≤ m) : Side s kn m := ⟨h.inv, h.few, Nat.le_trans h.fin hm, fun g => Nat.le_trans (h.tail g) hm, h.len⟩
/-- One Ask more. -/
theorem Side.ask {n : Nat} (h : Side s kn n) (hn : n < 60) (kind g v b : Nat) (l : List Nat) (hkind : kind = 1 ∨ kind = 2 ∨ kind = 3) (hm : askMay kind g v b l.length = true) (hl : l.length ≤ 100) (h8 : ∀ x ∈ l, x < 256) :
    ∃ s', Side s' (knTo kn g v (ruleN kind (knAt kn g v) b l).2) (n + 1) ∧ ∀ (W : World) (F : List Nat) (B : Nat) (ad : Option Addr) (len cap : Nat), AUp W F B s kn → Part.ok W ⟨ad, len, cap, l⟩ →
      Calls Tryz.prog 33 #[.pointer (some ⟨B, 0, none⟩), askV (kind : Int) (g : Int) (v : Int) (b : Int) ad len cap] W (AskedPost F B s' (knTo kn g v (ruleN kind (knAt kn g v) b l).2) (ruleN kind (knAt kn g v) b l).1 v (ruleN kind (knAt kn g v) b l).2.p (ruleN kind (knAt kn g v) b l).2.b (ruleN kind (knAt kn g v) b l).2.s (ruleN kind (knAt kn g v) b l).2.v W) := by
  obtain ⟨h1, h2, h3, h4, h5⟩ := askMay_lim hm
  have hfw := h.few g v
  have hf := ruleN_few kind (b := b) (l := l) hfw h4 hl h8
  have hfew : ∀ g' v', (knAt (knTo kn g v (ruleN kind (knAt kn g v) b l).2) g' v').few := fun g' v' => by
    by_cases e : g' = g ∧ v' = v
    · obtain ⟨rfl, rfl⟩ := e
      rw [knTo_at]
      exact hf
    · rw [knTo_other' _ _ _ _ _ _ e]
      exact h.few g' v'
  rcases ruleN_cases kind (knAt kn g v) b l with hr | hr
  · have e2 : (ruleN kind (knAt kn g v) b l).2 = knAt kn g v := by rw [hr]
    have e1 : (ruleN kind (knAt kn g v) b l).1 = 34 := by rw [hr]
    rw [e1, e2, knTo_same rfl]
    refine ⟨s, h.mono (Nat.le_succ _), fun W F B ad len cap hu hp => ?_⟩
    have hll : l.length = len := hp.1
    refine asked_ok hu kind g v b ad len cap l (by rw [← hll]; exact hm) hp s kn 34 v _ _ _ _ (by omega) h3 hfw.ok.p hfw.ok.b (by have := hfw.len; omega) (fun W q hu hq hk hlc => ?_)
    rcases hkind with rfl | rfl | rfl
    · exact go_1s hu g v b l hm q hq hk hlc hr
    · exact go_2s hu g v b l hm q hq hk hlc hfw.ok hr
    · exfalso
      have : (ruleN 3 (knAt kn g v) b l).1 = 0 := by unfold ruleN learnN; rw [if_neg (by omega), if_neg (by omega)]; split <;> rfl
      omega
  · obtain ⟨k', hk'⟩ : ∃ k', (ruleN kind (knAt kn g v) b l).2 = k' := ⟨_, rfl⟩
    have hrr : ruleN kind (knAt kn g v) b l = (0, k') := by rw [← hr, ← hk']
    rw [hr, hk']
    rw [hk'] at hf hfew
    have ht := h.tail g
    have hfi := h.fin
    have hpn : partsN (32 + k'.v.length) ≤ 1 := by have := hf.len; unfold partsN; omega
    obtain ⟨s', i1, i2, i3, i4, i5, K⟩ := keep_free (kn := kn) h.inv g v h2 h3 k' hf.ok (by omega) (Or.inr (by rw [h.len]; omega))
    refine ⟨s', ⟨i1, hfew, by omega, fun g' => ?_, i3.trans h.len⟩, fun W F B ad len cap hu hp => ?_⟩
    · by_cases e : g' = g
      · subst e; omega
      · rw [i5 g' e]; have := h.tail g'; omega
    have hll : l.length = len := hp.1
    refine asked_ok hu kind g v b ad len cap l (by rw [← hll]; exact hm) hp s' (knTo kn g v k') 0 v _ _ _ _ (by omega) h3 hf.ok.p hf.ok.b (by have := hf.len; omega) (fun W q hu hq hk hlc => ?_)
    rcases hkind with rfl | rfl | rfl
    · exact go_1 hu g v b l hm q hq hk hlc k' hrr s' K
    · exact go_2 hu g v b l hm q hq hk hlc hfw.ok k' hrr s' K
    · exact go_3 hu g v b l hm q hq hk hlc k' hrr s' K
end Go.Proofs.YtmiibakbcogolaaGreat.Ac
