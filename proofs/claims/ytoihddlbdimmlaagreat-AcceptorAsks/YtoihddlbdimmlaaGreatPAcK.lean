/- knows of the statements of layer 8. The calls on no acceptor, and on one that nobody made; the walk of NodeNil. -/
import Derived.Test.YtoihddlbdimmlaaGreatPAcG
import Derived.Test.YtoihddlbdimmlaaGreatPAcQ
import Derived.Test.YtoihddlbdimmlaaGreatPAcN
namespace Go.Proofs.YtoihddlbdimmlaaGreat.Ac
open Go.RowKit Go.Shelf Crcm

def litW (W : World) (v : Value) : World := (W.alloc (.cells #[v] 5)).freeze ⟨W.heap.size, 1, none⟩ 1
theorem lit_conv (W : World) (v : Value) : (convert 22 22 (.slice (some ⟨W.heap.size, 0, none⟩) 1 1)).run Tryz.prog (W.alloc (.cells #[v] 5)) = .ok (.slice (some ⟨W.heap.size, 0, none⟩) 1 1) (litW W v) := by
  have h1 : (W.alloc (.cells #[v] 5)).shape? W.heap.size = some (5, 1) := by
    unfold World.shape?
    rw [heap_alloc_last]
    rfl
  simp [convert, markStringish, run_underlying Tryz.underlying22, run_underlying Tryz.underlying5, Result.andThen, h1, litW]
theorem litW_heap (W : World) (v : Value) : (litW W v).heap.size = W.heap.size + 1 ∧ (∃ fr, (litW W v).heap[W.heap.size]? = some (.cells #[v] 5 fr)) ∧ Below W.heap.size W (litW W v) := by
  have hs : (litW W v).heap = (W.alloc (.cells #[v] 5)).heap.modify W.heap.size (fun
      | .cells c elem (lo, hi) => .cells c elem (if lo == hi then (1, 1 + 1) else (min lo 1, max hi (1 + 1)))
      | o => o) := rfl
  have h1 : (litW W v).heap.size = W.heap.size + 1 := by rw [hs, Array.size_modify]; simp
  refine ⟨h1, ⟨(1, 2), ?_⟩, rfl, rfl, rfl, by omega, fun k hk => ?_⟩
  · rw [hs, Array.getElem?_modify, if_pos rfl, heap_alloc_last]
    rfl
  · rw [hs, Array.getElem?_modify, if_neg (by omega)]
    exact Below.heap_alloc W _ k hk
theorem lit_ok (W : World) (x : Nat) (z : Int) (hz : z = x) (hx : x < 256) : Part.ok (litW W (.int .u8 z)) ⟨some ⟨W.heap.size, 0, none⟩, 1, 1, [x]⟩ := by
  subst hz
  obtain ⟨h1, ⟨fr, h2⟩, -⟩ := litW_heap W (.int .u8 (x : Int))
  refine ⟨rfl, fun e => (by cases e), fun y hy => by simp at hy; omega, Or.inr ⟨W.heap.size, 0, rfl, by omega, fun i hi => ?_⟩⟩
  have hi0 : i = 0 := by simpa using hi
  subst hi0
  exact cell_of_row _ _ _ _ _ _ h2
/-- An acceptor made by a call that began in w0, and boxes of Answers that lie beside it. -/
structure K8 (w0 w : World) (B : Nat) (s : SSt) (kn : Nat → Nat → Option Kn) (X : List (Nat × Array Value)) : Prop where
  up : ∃ F, AUp w F B s kn ∧ (∀ g ∈ F, w0.heap.size ≤ g) ∧ ∀ x ∈ X, x.1 ∉ F
  box : ∀ x ∈ X, Blk w x.1 x.2 36
  below : Below w0.heap.size w0 w
variable {w0 w w' : World} {B : Nat} {s s' : SSt} {kn kn' : Nat → Nat → Option Kn} {X : List (Nat × Array Value)}
theorem K8.later (h : K8 w0 w B s kn X) (hb : Below w.heap.size w w') : K8 w0 w' B s kn X := by
  obtain ⟨F, h1, h2, h3⟩ := h.up
  exact ⟨⟨F, h1.later hb, h2, h3⟩, fun x hx => (h.box x hx).later hb, h.below.trans (hb.mono h.below.size)⟩
theorem K8.alloc (h : K8 w0 w B s kn X) (cs : Array Value) : K8 w0 (w.alloc (.cells cs 36)) B s kn ((w.heap.size, cs) :: X) := by
  have hb : Below w.heap.size w (w.alloc (.cells cs 36)) := (Below.refl _ _).alloc (Nat.le_refl _) _
  have h' := h.later hb
  obtain ⟨F, h1, h2, h3⟩ := h.up
  have hlt := h1.lt
  refine ⟨⟨F, h1.later hb, h2, fun x hx => ?_⟩, fun x hx => ?_, h'.below⟩
  · simp only [List.mem_cons] at hx
    rcases hx with rfl | hx
    · exact fun hm => absurd (hlt _ hm) (by simp)
    · exact h3 x hx
  · simp only [List.mem_cons] at hx
    rcases hx with rfl | hx
    · exact heap_alloc_last w _
    · exact h'.box x hx
theorem K8.asked {v : Value} {e ve pe be : Nat} {se : Bool} {vl : List Nat} (h : K8 w0 w B s kn X) (hc : ∀ F, AUp w F B s kn → Calls Tryz.prog 33 #[.pointer (some ⟨B, 0, none⟩), v] w (AskedPost F B s' kn' e ve pe be se vl w)) :
    Calls Tryz.prog 33 #[.pointer (some ⟨B, 0, none⟩), v] w fun x w' => ∃ r : Part, x = .returned (.tuple #[.agg #[.int .i64 (e : Int), .int .i64 (ve : Int), .int .i64 (pe : Int), .int .i64 (be : Int), .bool se, .slice r.ad r.len r.cap], .bool true]) ∧ Hid (r.l = vl ∧ r.ok w') ∧ Hid (K8 w0 w' B s' kn' X) := by
  obtain ⟨F, h1, h2, h3⟩ := h.up
  refine (hc F h1).mono ?_
  rintro x w' ⟨r, rfl, e1, m1⟩
  obtain ⟨⟨F', n1, hF'⟩, hch⟩ := m1.out
  refine ⟨r, rfl, e1, hid ⟨⟨F', n1, fun g hg => ?_, fun x hx hm => ?_⟩, fun x hx => (h.box x hx).chg hch (h3 x hx), ?_⟩⟩
  · exact (hF' g hg).elim (h2 g) (fun hh => Nat.le_trans h.below.size hh)
  · exact (hF' _ hm).elim (h3 x hx) (fun hh => absurd (h.box x hx).lt (by omega))
  · exact h.below.trans (hch.below h2 h.below.size)
/-- What is known step by step. -/
def kq1 : Kn := ⟨5, 0, false, []⟩
def kq2 : Kn := ⟨5, 5, false, [97]⟩
theorem kq1_ok : kq1.ok := ⟨by decide, by decide, by decide, by simp [kq1]⟩
theorem kq2_ok : kq2.ok := ⟨by decide, by decide, by decide, by simp [kq2]⟩
theorem kn00_at : knAt kn00 0 1 = kn0 := rfl
theorem knTo_some (kn : Nat → Nat → Option Kn) (g v : Nat) (k : Kn) (h : k ≠ kn0) : knTo kn g v k g v = some k := by
  have h1 := knTo_at kn g v k
  unfold knAt at h1
  cases hh : knTo kn g v k g v with
  | none => rw [hh] at h1; exact absurd h1.symm h
  | some x => rw [hh] at h1; exact congrArg some h1
theorem latest2 : IsLatest (knTo (knTo kn00 0 1 kq1) 0 1 kq2) 0 1 := by
  refine ⟨Or.inr ⟨kq2, knTo_some _ _ _ _ (by simp [kq2, kn0]), by decide⟩, fun v' k hk hb => ?_⟩
  by_cases hv : v' = 1
  · omega
  · rw [knTo_other _ _ _ _ _ _ (by omega), knTo_other _ _ _ _ _ _ (by omega)] at hk
    cases hk
theorem lit_conv1 (W : World) (cs : Array Value) : (convert 22 22 (.slice (some ⟨W.heap.size + 1, 0, none⟩) 1 1)).run Tryz.prog ((W.alloc (.cells cs 36)).alloc (.cells #[.int .u8 97] 5)) = .ok (.slice (some ⟨W.heap.size + 1, 0, none⟩) 1 1) (litW (W.alloc (.cells cs 36)) (.int .u8 97)) := by
  have h := lit_conv (W.alloc (.cells cs 36)) (.int .u8 97)
  rw [show (W.alloc (.cells cs 36)).heap.size = W.heap.size + 1 by simp] at h
  exact h
theorem lit_ok1 (W : World) (cs : Array Value) : Part.ok (litW (W.alloc (.cells cs 36)) (.int .u8 97)) ⟨some ⟨W.heap.size + 1, 0, none⟩, 1, 1, [97]⟩ := by
  have h := lit_ok (W.alloc (.cells cs 36)) 97 97 rfl (by omega)
  rw [show (W.alloc (.cells cs 36)).heap.size = W.heap.size + 1 by simp] at h
  exact h
theorem nilPart (w : World) : Part.ok w ⟨none, 0, 0, []⟩ := ⟨rfl, fun _ => ⟨rfl, rfl⟩, fun _ h => (by cases h), Or.inl rfl⟩
set_option maxRecDepth 100000 in
set_option maxHeartbeats 8000000 in
theorem knows8 (w : World) : Calls Tryz.prog 23 #[] w fun e w' => e = .returned (.bool true) ∧ Below w.heap.size w w' := by
  have n20 : (newD 20).bs.length = 20 := List.length_replicate
  obtain ⟨s1, i1, f1, l1, t1, -, K1⟩ := keep_free (kn := kn00) (inv0 20) 0 1 (by omega) (by omega) kq1 kq1_ok (by decide) (Or.inr (by show 0 + partsN 32 ≤ (newD 20).bs.length; rw [n20]; decide))
  have f1' : s1.fin ≤ 1 := f1
  have t1' : (s1.log 0).tail ≤ 1 := t1
  have l1' : s1.d.bs.length = 20 := l1.trans n20
  obtain ⟨s2, i2, f2, l2, t2, -, K2⟩ := keep_free (kn := knTo kn00 0 1 kq1) i1 0 1 (by omega) (by omega) kq2 kq2_ok (by omega) (Or.inr (by show s1.fin + partsN 33 ≤ s1.d.bs.length; rw [l1']; have : partsN 33 = 1 := rfl; omega))
  have HNEW := new_up 20 w (by omega) (by omega)
  have HN : Hid (∀ x w1, NewPost (sst0 (newD (20 : Int).toNat)) w x w1 → ∃ B, x = .returned (.tuple #[.pointer (some ⟨B, 0, none⟩), .int .i64 0]) ∧ Hid (K8 w w1 B (sst0 (newD 20)) kn00 [])) := hid (fun x w1 hx => by
    obtain ⟨F, B, rfl, hu, hF, hb⟩ := hx
    exact ⟨B, rfl, hid ⟨⟨F, hu, hF, fun x hx => (by cases hx)⟩, fun x hx => (by cases hx), hb⟩⟩)
  have HA1 : Hid (∀ (W : World) (B : Nat) (X : List (Nat × Array Value)), K8 w W B (sst0 (newD 20)) kn00 X → Calls Tryz.prog 33 #[.pointer (some ⟨B, 0, none⟩), .agg #[.int .i64 1, .int .i64 0, .int .i64 1, .int .i64 5, .slice none 0 0]] W fun x w' => ∃ r : Part, x = .returned (.tuple #[.agg #[.int .i64 0, .int .i64 1, .int .i64 5, .int .i64 0, .bool false, .slice r.ad r.len r.cap], .bool true]) ∧ Hid (r.l = [] ∧ r.ok w') ∧ Hid (K8 w w' B s1 (knTo kn00 0 1 kq1) X)) := hid (fun W B X hK => hK.asked (e := 0) (ve := 1) (pe := 5) (be := 0) (se := false) (fun F hN => by
    refine asked_ok hN 1 0 1 5 none 0 0 [] (by decide) (nilPart W) s1 (knTo kn00 0 1 kq1) 0 1 5 0 false [] (by omega) (by omega) (by omega) (by omega) (by simp) (fun W q hu hq hk hlc => ?_)
    exact go_1 hu 0 1 5 [] (by decide) q hq hk hlc kq1 rfl s1 K1))
  have HA2 : Hid (∀ (W : World) (B g : Nat) (X : List (Nat × Array Value)), K8 w W B s1 (knTo kn00 0 1 kq1) X → Part.ok W ⟨some ⟨g, 0, none⟩, 1, 1, [97]⟩ → Calls Tryz.prog 33 #[.pointer (some ⟨B, 0, none⟩), .agg #[.int .i64 2, .int .i64 0, .int .i64 1, .int .i64 4, .slice (some ⟨g, 0, none⟩) 1 1]] W fun x w' => ∃ r : Part, x = .returned (.tuple #[.agg #[.int .i64 34, .int .i64 1, .int .i64 5, .int .i64 0, .bool false, .slice r.ad r.len r.cap], .bool true]) ∧ Hid (r.l = [] ∧ r.ok w') ∧ Hid (K8 w w' B s1 (knTo kn00 0 1 kq1) X)) := hid (fun W B g X hK hp => hK.asked (e := 34) (ve := 1) (pe := 5) (be := 0) (se := false) (fun F hN => by
    refine asked_ok hN 2 0 1 4 (some ⟨g, 0, none⟩) 1 1 [97] (by decide) hp s1 (knTo kn00 0 1 kq1) 34 1 5 0 false [] (by omega) (by omega) (by omega) (by omega) (by simp) (fun W q hu hq hk hlc => ?_)
    have ha : knAt (knTo kn00 0 1 kq1) 0 1 = kq1 := knTo_at _ _ _ _
    have r := go_2s hu 0 1 4 [97] (by decide) q hq hk hlc (by rw [ha]; exact kq1_ok) (by rw [ha]; rfl)
    rw [ha] at r
    exact r))
  have HA3 : Hid (∀ (W : World) (B g : Nat) (X : List (Nat × Array Value)), K8 w W B s1 (knTo kn00 0 1 kq1) X → Part.ok W ⟨some ⟨g, 0, none⟩, 1, 1, [97]⟩ → Calls Tryz.prog 33 #[.pointer (some ⟨B, 0, none⟩), .agg #[.int .i64 2, .int .i64 0, .int .i64 1, .int .i64 5, .slice (some ⟨g, 0, none⟩) 1 1]] W fun x w' => ∃ r : Part, x = .returned (.tuple #[.agg #[.int .i64 0, .int .i64 1, .int .i64 5, .int .i64 5, .bool false, .slice r.ad r.len r.cap], .bool true]) ∧ Hid (r.l = [97] ∧ r.ok w') ∧ Hid (K8 w w' B s2 (knTo (knTo kn00 0 1 kq1) 0 1 kq2) X)) := hid (fun W B g X hK hp => hK.asked (e := 0) (ve := 1) (pe := 5) (be := 5) (se := false) (fun F hN => by
    refine asked_ok hN 2 0 1 5 (some ⟨g, 0, none⟩) 1 1 [97] (by decide) hp s2 (knTo (knTo kn00 0 1 kq1) 0 1 kq2) 0 1 5 5 false [97] (by omega) (by omega) (by omega) (by omega) (by simp) (fun W q hu hq hk hlc => ?_)
    have ha : knAt (knTo kn00 0 1 kq1) 0 1 = kq1 := knTo_at _ _ _ _
    exact go_2 hu 0 1 5 [97] (by decide) q hq hk hlc (by rw [ha]; exact kq1_ok) kq2 (by rw [ha]; rfl) s2 K2))
  have HA4 : Hid (∀ (W : World) (B : Nat) (X : List (Nat × Array Value)), K8 w W B s2 (knTo (knTo kn00 0 1 kq1) 0 1 kq2) X → Calls Tryz.prog 33 #[.pointer (some ⟨B, 0, none⟩), .agg #[.int .i64 4, .int .i64 0, .int .i64 0, .int .i64 0, .slice none 0 0]] W fun x w' => ∃ r : Part, x = .returned (.tuple #[.agg #[.int .i64 0, .int .i64 1, .int .i64 5, .int .i64 5, .bool false, .slice r.ad r.len r.cap], .bool true]) ∧ Hid (r.l = [97] ∧ r.ok w') ∧ Hid (K8 w w' B s2 (knTo (knTo kn00 0 1 kq1) 0 1 kq2) X)) := hid (fun W B X hK => hK.asked (e := 0) (ve := 1) (pe := 5) (be := 5) (se := false) (fun F hN => by
    refine asked_ok hN 4 0 0 0 none 0 0 [] (by decide) (nilPart W) s2 (knTo (knTo kn00 0 1 kq1) 0 1 kq2) 0 1 5 5 false [97] (by omega) (by omega) (by omega) (by omega) (by simp) (fun W q hu hq hk hlc => ?_)
    have ha : knAt (knTo (knTo kn00 0 1 kq1) 0 1 kq2) 0 1 = kq2 := knTo_at _ _ _ _
    have r := go_4 hu 0 1 [] (by decide) q hq hk hlc latest2 (by omega)
    rw [ha] at r
    exact r))
  have kc := lit_conv1
  clear K1 K2 i1 i2 f1 f2 l1 l2 t1 t2 f1' t1' l1' n20
  generalize knTo (knTo kn00 0 1 kq1) 0 1 kq2 = kn2 at *
  generalize knTo kn00 0 1 kq1 = kn1 at *
  go_enter Tryz.func23, Tryz.ntmps23
  go_wp2_with (first
    | (go_at_call 24; refine HNEW.mono ?_; intro x w1 hx; obtain ⟨B, rfl, KK1⟩ := HN.out _ _ hx; clear hx HN HNEW)
    | (go_at_call 19; refine (num8_any _ _).mono ?_; rintro x w' ⟨rfl, hw'⟩; obtain rfl := hw'.symm)
    | (go_at_call 33; (with_reducible_and_instances (refine (HA1.out w1 B [] KK1.out).mono ?_)); rintro x a1w ⟨r1, rfl, R1, KA1⟩; have KK2 : Hid (K8 w (a1w.alloc (.cells #[.int .i64 0, .int .i64 1, .int .i64 5, .int .i64 0, .bool false, .slice r1.ad r1.len r1.cap] 36)) B s1 kn1 [(a1w.heap.size, #[.int .i64 0, .int .i64 1, .int .i64 5, .int .i64 0, .bool false, .slice r1.ad r1.len r1.cap])]) := hid (KA1.out.alloc _); clear KA1 KK1 HA1)
    | (go_at_call 33; (with_reducible_and_instances (refine (HA2.out (litW (a1w.alloc (.cells #[.int .i64 0, .int .i64 1, .int .i64 5, .int .i64 0, .bool false, .slice r1.ad r1.len r1.cap] 36)) (.int .u8 97)) B (a1w.heap.size + 1) _ (KK2.out.later (litW_heap _ _).2.2) (lit_ok1 _ _)).mono ?_)); rintro x a2w ⟨r2, rfl, R2, KA2⟩; have KK3 : Hid (K8 w (a2w.alloc (.cells #[.int .i64 34, .int .i64 1, .int .i64 5, .int .i64 0, .bool false, .slice r2.ad r2.len r2.cap] 36)) B s1 kn1 [(a2w.heap.size, #[.int .i64 34, .int .i64 1, .int .i64 5, .int .i64 0, .bool false, .slice r2.ad r2.len r2.cap]), (a1w.heap.size, #[.int .i64 0, .int .i64 1, .int .i64 5, .int .i64 0, .bool false, .slice r1.ad r1.len r1.cap])]) := hid (KA2.out.alloc _); clear KA2 KK2 HA2)
    | (go_at_call 33; (with_reducible_and_instances (refine (HA3.out (litW (a2w.alloc (.cells #[.int .i64 34, .int .i64 1, .int .i64 5, .int .i64 0, .bool false, .slice r2.ad r2.len r2.cap] 36)) (.int .u8 97)) B (a2w.heap.size + 1) _ (KK3.out.later (litW_heap _ _).2.2) (lit_ok1 _ _)).mono ?_)); rintro x a3w ⟨r3, rfl, R3, KA3⟩; have KK4 : Hid (K8 w (a3w.alloc (.cells #[.int .i64 0, .int .i64 1, .int .i64 5, .int .i64 5, .bool false, .slice r3.ad r3.len r3.cap] 36)) B s2 kn2 [(a3w.heap.size, #[.int .i64 0, .int .i64 1, .int .i64 5, .int .i64 5, .bool false, .slice r3.ad r3.len r3.cap]), (a2w.heap.size, #[.int .i64 34, .int .i64 1, .int .i64 5, .int .i64 0, .bool false, .slice r2.ad r2.len r2.cap]), (a1w.heap.size, #[.int .i64 0, .int .i64 1, .int .i64 5, .int .i64 0, .bool false, .slice r1.ad r1.len r1.cap])]) := hid (KA3.out.alloc _); clear KA3 KK3 HA3)
    | (go_at_call 33; (with_reducible_and_instances (refine (HA4.out (a3w.alloc (.cells #[.int .i64 0, .int .i64 1, .int .i64 5, .int .i64 5, .bool false, .slice r3.ad r3.len r3.cap] 36)) B _ KK4.out).mono ?_)); rintro x a4w ⟨r4, rfl, R4, KA4⟩; have KK5 : Hid (K8 w (a4w.alloc (.cells #[.int .i64 0, .int .i64 1, .int .i64 5, .int .i64 5, .bool false, .slice r4.ad r4.len r4.cap] 36)) B s2 kn2 [(a4w.heap.size, #[.int .i64 0, .int .i64 1, .int .i64 5, .int .i64 5, .bool false, .slice r4.ad r4.len r4.cap]), (a3w.heap.size, #[.int .i64 0, .int .i64 1, .int .i64 5, .int .i64 5, .bool false, .slice r3.ad r3.len r3.cap]), (a2w.heap.size, #[.int .i64 34, .int .i64 1, .int .i64 5, .int .i64 0, .bool false, .slice r2.ad r2.len r2.cap]), (a1w.heap.size, #[.int .i64 0, .int .i64 1, .int .i64 5, .int .i64 0, .bool false, .slice r1.ad r1.len r1.cap])]) := hid (KA4.out.alloc _); have x1 := (KK5.out.box _ (List.mem_cons_of_mem _ (List.mem_cons_of_mem _ (List.mem_cons_of_mem _ List.mem_cons_self)))).cell 2; have x2 := (KK5.out.box _ (List.mem_cons_of_mem _ (List.mem_cons_of_mem _ (List.mem_cons_of_mem _ List.mem_cons_self)))).cell 0; have x3 := (KK5.out.box _ (List.mem_cons_of_mem _ (List.mem_cons_of_mem _ List.mem_cons_self))).cell 0; have x4 := (KK5.out.box _ (List.mem_cons_of_mem _ List.mem_cons_self)).cell 3; have kd := conv_any (((R4.out.2).later ((Below.refl _ _).alloc (Nat.le_refl _) (.cells #[.int .i64 0, .int .i64 1, .int .i64 5, .int .i64 5, .bool false, .slice r4.ad r4.len r4.cap] 36))).2.2) r4.len r4.cap (R4.out.2.1); rw [R4.out.1, show bstr [97] = ⟨#[97]⟩ from rfl] at kd; simp only at kd x1 x2 x3 x4; clear KA4 KK4 HA4 kc))
  go_ret
  exact ⟨by simp, KK5.out.below⟩
end Go.Proofs.YtoihddlbdimmlaaGreat.Ac
namespace Go.Proofs.YtoihddlbdimmlaaGreat.Ac
open Go.RowKit
variable {w : World} {v : Value}

/-- No acceptor, or one that nobody made. -/
def NoAcc (w : World) (v : Value) : Prop := v = .pointer none ∨ ∃ S, v = .pointer (some ⟨S, 0, none⟩) ∧ w.heap[S]? = some (.cells #[.pointer none, .pointer none, .map none] 70 (0, 0))
set_option maxRecDepth 100000 in
theorem nmade_no (h : NoAcc w v) : Calls Tryz.prog 58 #[v] w fun e w' => e = .returned (.bool false) ∧ w' = w := by
  rcases h with rfl | ⟨D, rfl, hD⟩
  · go_enter Tryz.func58, Tryz.ntmps58
    go_wp2
    all_goals go_ret
    all_goals simp
  · have c0 : w.cell? ⟨D, 0, none⟩ = some (.pointer none) := by rw [cell_of_row _ _ _ _ _ _ hD]; rfl
    clear hD
    go_enter Tryz.func58, Tryz.ntmps58
    go_wp2
    all_goals go_ret
    all_goals simp
set_option maxRecDepth 100000 in
theorem nup_no (h : NoAcc w v) : Calls Tryz.prog 31 #[v] w fun e w' => e = .returned (.bool false) ∧ w' = w := by
  have hm := nmade_no h
  go_enter Tryz.func31, Tryz.ntmps31
  go_wp2_with (go_at_call 58; refine hm.mono ?_; rintro e w' ⟨rfl, hw'⟩; obtain rfl := hw'.symm)
  go_ret
  exact ⟨rfl, rfl⟩
set_option maxRecDepth 100000 in
theorem nask_no (h : NoAcc w v) (ad : Option Addr) (len cap : Nat) : Calls Tryz.prog 29 #[v, .slice ad len cap] w fun e w' => e = .returned (.slice none 0 0) ∧ w' = w := by
  have hm := nup_no h
  go_enter Tryz.func29, Tryz.ntmps29
  go_wp2_with (go_at_call 31; refine hm.mono ?_; rintro e w' ⟨rfl, hw'⟩; obtain rfl := hw'.symm)
  go_ret
  exact ⟨rfl, rfl⟩
set_option maxRecDepth 100000 in
theorem nstart_no (h : NoAcc w v) (ad : Option Addr) (len cap : Nat) : Calls Tryz.prog 30 #[v, .slice ad len cap] w fun e w' => e = .returned (.int .i64 1) ∧ w' = w := by
  have hm := nmade_no h
  go_enter Tryz.func30, Tryz.ntmps30
  go_wp2_with (go_at_call 58; refine hm.mono ?_; rintro e w' ⟨rfl, hw'⟩; obtain rfl := hw'.symm)
  go_ret
  exact ⟨rfl, rfl⟩
set_option maxRecDepth 100000 in
theorem ncut_no (h : NoAcc w v) (i : Int) : Calls Tryz.prog 27 #[v, .int .i64 i] w fun e w' => e = .returned (.tuple #[]) ∧ w' = w := by
  have hm := nmade_no h
  go_enter Tryz.func27, Tryz.ntmps27
  go_wp2_with (go_at_call 58; refine hm.mono ?_; rintro e w' ⟨rfl, hw'⟩; obtain rfl := hw'.symm)
  exact bodyPost_end (results_none rfl _ _ _) rfl ⟨rfl, rfl⟩
set_option maxRecDepth 100000 in
theorem nstop_no (h : NoAcc w v) : Calls Tryz.prog 28 #[v] w fun e w' => e = .returned (.tuple #[]) ∧ w' = w := by
  have hm := nmade_no h
  go_enter Tryz.func28, Tryz.ntmps28
  go_wp2_with (go_at_call 58; refine hm.mono ?_; rintro e w' ⟨rfl, hw'⟩; obtain rfl := hw'.symm)
  exact bodyPost_end (results_none rfl _ _ _) rfl ⟨rfl, rfl⟩
set_option maxRecDepth 100000 in
set_option maxHeartbeats 4000000 in
theorem acceptorNil_any (ad : Option Addr) (len cap : Nat) (ad2 : Option Addr) (len2 cap2 : Nat) (w : World) :
    Calls Tryz.prog 5 #[.slice ad len cap, .slice ad2 len2 cap2] w fun e w' => e = .returned (.bool true) ∧ Below w.heap.size w w' := by
  go_enter Tryz.func5, Tryz.ntmps5
  go_wp2
  go_loopw [5, 6] (fun v k wr => ∃ (m : Nat) (p : Option Addr), m ≤ 2 ∧ k = .int .i64 m ∧ v = .pointer p ∧ Hid (NoAcc wr (.pointer p)) ∧ Hid (Below w.heap.size w wr)) (fun _ k _ => 2 - (intOf k).toNat)
  case atStart => exact ⟨0, none, by omega, rfl, rfl, (show Hid _ from Or.inl rfl), (show Hid _ from Below.refl _ w)⟩
  case round =>
    obtain ⟨m, p, hm, rfl, rfl, HN, HB⟩ := hrel
    by_cases hlt : m < 2
    · have ha := nask_no HN.out ad len cap
      have hs := nstart_no HN.out ad2 len2 cap2
      have hc := ncut_no HN.out 1
      have hp := nstop_no HN.out
      have hu := nup_no HN.out
      go_wp2_with (first
        | (go_at_call 27; refine hc.mono ?_; rintro e w' ⟨rfl, hw'⟩; obtain rfl := hw'.symm)
        | (go_at_call 28; refine hp.mono ?_; rintro e w' ⟨rfl, hw'⟩; obtain rfl := hw'.symm)
        | (go_at_call 29; refine ha.mono ?_; rintro e w' ⟨rfl, hw'⟩; obtain rfl := hw'.symm)
        | (go_at_call 30; refine hs.mono ?_; rintro e w' ⟨rfl, hw'⟩; obtain rfl := hw'.symm)
        | (go_at_call 19; refine (num8_any _ _).mono ?_; rintro e w' ⟨rfl, hw'⟩; obtain rfl := hw'.symm)
        | (go_at_call 31; refine hu.mono ?_; rintro e w' ⟨rfl, hw'⟩; obtain rfl := hw'.symm))
      go_roundw
      case rel => exact ⟨m + 1, some ⟨wr.heap.size, 0, none⟩, by omega, by go_num, rfl, (show Hid _ from Or.inr ⟨_, rfl, heap_alloc_last _ _⟩), (show Hid _ from HB.out.alloc HB.out.size _)⟩
      case measure => simp [intOf]; omega
    · obtain rfl : m = 2 := by omega
      go_wp2_with (go_at_call 23; refine (knows8 _).mono ?_; rintro e w' ⟨rfl, hk⟩)
      go_ret
      exact ⟨rfl, HB.out.trans (hk.mono HB.out.size)⟩
end Go.Proofs.YtoihddlbdimmlaaGreat.Ac
