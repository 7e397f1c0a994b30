/- What Ask of an acceptor leaves; the Ask of a frame. Ask of an acceptor that is up: Prepare. Ask of an acceptor that is up: Prepare, refused. -/
import Derived.Test.YtmiibakbcogolaaGreatPAcC
import Derived.Test.YtmiibakbcogolaaGreatAcGetA
import Derived.Deep.DeepCutAuto
import Derived.Deep.RegionWith
namespace Go.Proofs.YtmiibakbcogolaaGreat.Ac
open Go.RowKit Go.Shelf Crcm
variable {w w' W : World} {F : List Nat} {B : Nat} {s : SSt} {kn : Nat → Nat → Option Kn}

/-- What Ask leaves and answers. -/
def APost (F : List Nat) (B : Nat) (s : SSt) (kn : Nat → Nat → Option Kn) (l : List Nat) (w : World) (x : Ending) (w' : World) : Prop := ∃ q : Part, x = .returned (.slice q.ad q.len q.cap) ∧ q.l = l ∧ q.ok w' ∧ q.len ≤ q.cap ∧ AMoved F B s kn w w'
theorem getAsk_yes (ad : Option Addr) (len cap : Nat) (l : List Nat) (w : World) (hp : Part.ok w ⟨ad, len, cap, l⟩) (hlc : len ≤ cap) (hm : len ≤ 1000000000000000) (h : unpackN l 3 19 = true) (hin : askIn (bodyAt l 0) = true) :
    Calls Tryz.prog 15 #[.slice ad len cap] w fun e w' => ∃ g o n c : Nat, e = .returned (.tuple #[askV (askK (bodyAt l 0) : Nat) (askG (bodyAt l 0) : Nat) (askW (bodyAt l 0) : Nat) (askB (bodyAt l 0) : Nat) (some ⟨g, o, none⟩) n c, .int .i64 0]) ∧ Hid (Part.ok w' ⟨some ⟨g, o, none⟩, n, c, (bodyAt l 0).drop 19⟩) ∧ Below w.heap.size w w' := by
  refine (getAsk_frame ad len cap l w true hp hlc hm h hin).mono ?_
  rintro e w' ⟨h1 | ⟨-, g, o, n, c, h2, h3, h4, h5⟩, hb⟩
  · cases h1.1
  · exact ⟨g, o, n, c, h2, h3, hb⟩
/-- Four values are stored in a box, cell by cell. -/
def set4 (w : World) (B : Nat) (a b c d : Value) : World := (((w.setCell ⟨B, 0, none⟩ a).setCell ⟨B, 1, none⟩ b).setCell ⟨B, 2, none⟩ c).setCell ⟨B, 3, none⟩ d
theorem blk_set4 {T : TypeId} {w : World} {B : Nat} {a0 b0 c0 d0 : Value} (h : Blk w B #[a0, b0, c0, d0] T) (a b c d : Value) : Blk (set4 w B a b c d) B #[a, b, c, d] T :=
  (((h.set 0 a).set 1 b).set 2 c).set 3 d
theorem set4_below {N : Nat} {w0 w : World} (h : Below N w0 w) {B : Nat} (hB : N ≤ B) (a b c d : Value) : Below N w0 (set4 w B a b c d) :=
  (((h.setCell (p := ⟨B, 0, none⟩) hB _).setCell (p := ⟨B, 1, none⟩) hB _).setCell (p := ⟨B, 2, none⟩) hB _).setCell (p := ⟨B, 3, none⟩) hB _
theorem blk4 {T : TypeId} {w : World} {B : Nat} {a b c d : Value} (h : Blk w B #[a, b, c, d] T) : (w.cell? ⟨B, 0, none⟩ = some a ∧ w.cell? ⟨B, 1, none⟩ = some b ∧ w.cell? ⟨B, 2, none⟩ = some c ∧ w.cell? ⟨B, 3, none⟩ = some d) ∧ w.frozen? ⟨B, 0, none⟩ = false ∧ w.frozen? ⟨B, 1, none⟩ = false ∧ w.frozen? ⟨B, 2, none⟩ = false ∧ w.frozen? ⟨B, 3, none⟩ = false :=
  ⟨⟨h.cell 0, h.cell 1, h.cell 2, h.cell 3⟩, h.free 0, h.free 1, h.free 2, h.free 3⟩
theorem below_s4 {N : Nat} {w0 w : World} (h : Below N w0 w) {B : Nat} (hB : N ≤ B) (a b c d : Value) : Below N w0 ((((w.setCell ⟨B, 0, none⟩ a).setCell ⟨B, 1, none⟩ b).setCell ⟨B, 2, none⟩ c).setCell ⟨B, 3, none⟩ d) := set4_below h hB a b c d
theorem blk_s4 {T : TypeId} {w : World} {B : Nat} {a0 b0 c0 d0 : Value} (h : Blk w B #[a0, b0, c0, d0] T) (a b c d : Value) : Blk ((((w.setCell ⟨B, 0, none⟩ a).setCell ⟨B, 1, none⟩ b).setCell ⟨B, 2, none⟩ c).setCell ⟨B, 3, none⟩ d) B #[a, b, c, d] T := blk_set4 h a b c d
theorem below_s6 {N : Nat} {w0 w : World} (h : Below N w0 w) {B : Nat} (hB : N ≤ B) (a b c d e f : Value) : Below N w0 ((((((w.setCell ⟨B, 0, none⟩ a).setCell ⟨B, 1, none⟩ b).setCell ⟨B, 2, none⟩ c).setCell ⟨B, 3, none⟩ d).setCell ⟨B, 4, none⟩ e).setCell ⟨B, 5, none⟩ f) := set6_below h hB a b c d e f
theorem part_setE {w : World} {q : Part} {B i : Nat} {a b c d : Int} {sl : Bool} {ad : Option Addr} {len cap : Nat} {T : TypeId} {v : Value} (hB : Blk w B #[.int .i64 a, .int .i64 b, .int .i64 c, .int .i64 d, .bool sl, .slice ad len cap] T) (h : q.ok w) : q.ok (w.setCell ⟨B, i, none⟩ v) := by
  by_cases h0 : q.l = []
  · exact ⟨h.1, h.2.1, h.2.2.1, Or.inl h0⟩
  · refine part_sets h (fun b' off e hb => ?_)
    subst hb
    rcases h.2.2.2 with h1 | ⟨b2, o2, e2, hlt, hc⟩
    · exact h0 h1
    · rw [e] at e2
      cases e2
      have h2 := hc 0 (List.length_pos_iff.2 h0)
      rw [hB.cell] at h2
      generalize off + 0 = k at h2
      rcases k with _ | _ | _ | _ | _ | _ | k
      all_goals (simp at h2)
theorem part_setE6 {w : World} {q : Part} {B : Nat} {a b c d : Int} {sl : Bool} {ad : Option Addr} {len cap : Nat} {T : TypeId} {a' b' c' d' : Int} {sl' : Bool} {ad' : Option Addr} {len' cap' : Nat} (hB : Blk w B #[.int .i64 a, .int .i64 b, .int .i64 c, .int .i64 d, .bool sl, .slice ad len cap] T) (h : q.ok w) : q.ok (set6 w B (.int .i64 a') (.int .i64 b') (.int .i64 c') (.int .i64 d') (.bool sl') (.slice ad' len' cap')) := by
  have h1 : q.ok (w.setCell ⟨B, 0, none⟩ (.int .i64 a')) := part_setE hB h
  have B1 : Blk (w.setCell ⟨B, 0, none⟩ (.int .i64 a')) B #[.int .i64 a', .int .i64 b, .int .i64 c, .int .i64 d, .bool sl, .slice ad len cap] T := hB.set 0 _
  have h2 := part_setE (i := 1) (v := .int .i64 b') B1 h1
  have B2 : Blk ((w.setCell ⟨B, 0, none⟩ (.int .i64 a')).setCell ⟨B, 1, none⟩ (.int .i64 b')) B #[.int .i64 a', .int .i64 b', .int .i64 c, .int .i64 d, .bool sl, .slice ad len cap] T := B1.set 1 _
  have h3 := part_setE (i := 2) (v := .int .i64 c') B2 h2
  have B3 : Blk (((w.setCell ⟨B, 0, none⟩ (.int .i64 a')).setCell ⟨B, 1, none⟩ (.int .i64 b')).setCell ⟨B, 2, none⟩ (.int .i64 c')) B #[.int .i64 a', .int .i64 b', .int .i64 c', .int .i64 d, .bool sl, .slice ad len cap] T := B2.set 2 _
  have h4 := part_setE (i := 3) (v := .int .i64 d') B3 h3
  have B4 : Blk ((((w.setCell ⟨B, 0, none⟩ (.int .i64 a')).setCell ⟨B, 1, none⟩ (.int .i64 b')).setCell ⟨B, 2, none⟩ (.int .i64 c')).setCell ⟨B, 3, none⟩ (.int .i64 d')) B #[.int .i64 a', .int .i64 b', .int .i64 c', .int .i64 d', .bool sl, .slice ad len cap] T := B3.set 3 _
  have h5 := part_setE (i := 4) (v := .bool sl') B4 h4
  have B5 : Blk (((((w.setCell ⟨B, 0, none⟩ (.int .i64 a')).setCell ⟨B, 1, none⟩ (.int .i64 b')).setCell ⟨B, 2, none⟩ (.int .i64 c')).setCell ⟨B, 3, none⟩ (.int .i64 d')).setCell ⟨B, 4, none⟩ (.bool sl')) B #[.int .i64 a', .int .i64 b', .int .i64 c', .int .i64 d', .bool sl', .slice ad len cap] T := B4.set 4 _
  exact part_setE (i := 5) (v := .slice ad' len' cap') B5 h5
/-- In the midst of Ask: the boxes of the Ask and of the spot lie behind all that the acceptor has. -/
structure Mids (w : World) (N1 N2 : Nat) (ask sp : Array Value) (W : World) : Prop where
  below : Below w.heap.size w W
  b1 : Blk W N1 ask 30
  b2 : Blk W N2 sp 110
  l1 : w.heap.size ≤ N1
  l2 : w.heap.size ≤ N2
theorem Mids.later {N1 N2 : Nat} {ask sp : Array Value} (h : Mids w N1 N2 ask sp W) (hb : Below W.heap.size W w') : Mids w N1 N2 ask sp w' :=
  ⟨h.below.trans (hb.mono h.below.size), h.b1.later hb, h.b2.later hb, h.l1, h.l2⟩
/-- Behind a call on the acceptor. -/
structure Tails (w : World) (F : List Nat) (B : Nat) (s : SSt) (kn : Nat → Nat → Option Kn) (N2 : Nat) (sp : Array Value) (W : World) : Prop where
  moved : AMoved F B s kn w W
  b2 : Blk W N2 sp 110
theorem Tails.later {N2 : Nat} {sp : Array Value} (h : Tails w F B s kn N2 sp W) (hb : Below W.heap.size W w') : Tails w F B s kn N2 sp w' := ⟨h.moved.post hb, h.b2.later hb⟩
theorem Mids.tails {N1 N2 : Nat} {ask sp : Array Value} (h : Mids w N1 N2 ask sp W) (hu : AUp w F B s kn) : Tails w F B s kn N2 sp W := ⟨hu.moved h.below, h.b2⟩
theorem Mids.kept {N1 N2 : Nat} {ask sp : Array Value} (h : Mids w N1 N2 ask sp W) (hlt : ∀ g ∈ F, g < w.heap.size) {s' : SSt} {kn' : Nat → Nat → Option Kn} (hm : AMoved F B s' kn' W w') : Tails w F B s' kn' N2 sp w' :=
  ⟨hm.pre h.below, h.b2.chg hm.2 (fun hh => absurd (hlt _ hh) (by have := h.l2; omega))⟩
end Go.Proofs.YtmiibakbcogolaaGreat.Ac
namespace Go.Proofs.YtmiibakbcogolaaGreat.Ac
open Go.RowKit Go.Shelf Crcm
variable {w w' W : World} {F : List Nat} {B : Nat} {s : SSt} {kn : Nat → Nat → Option Kn}

set_option maxRecDepth 100000 in
set_option maxHeartbeats 8000000 in
theorem ask_1 (h : AUp w F B s kn) (ad : Option Addr) (len cap : Nat) (l : List Nat) (hp : Part.ok w ⟨ad, len, cap, l⟩) (hlc : len ≤ cap) (hm : len ≤ 1000000000000000) (hu : unpackN l 3 19 = true) (hin : askIn (bodyAt l 0) = true) (hk : askK (bodyAt l 0) = 1)
    (u : Nat) (hul : u < 281474976710656) (k' : Kn) (e : Nat) (he : e ≤ 255) (he8 : e ≠ 8) (s' : SSt) (kn' : Nat → Nat → Option Kn)
    (habout : ∀ (W : World) (ga o n c : Nat), Below w.heap.size w W → Calls Tryz.prog 61 #[.pointer (some ⟨B, 0, none⟩), askV 1 (askG (bodyAt l 0) : Nat) (askW (bodyAt l 0) : Nat) (askB (bodyAt l 0) : Nat) (some ⟨ga, o, none⟩) n c] W fun x w' => x = .returned (.agg #[.int .i64 (askG (bodyAt l 0) : Nat), .int .i64 (u : Int)]) ∧ Below W.heap.size W w')
    (hrule : ∀ (W : World) (ga o n c : Nat), Part.ok W ⟨some ⟨ga, o, none⟩, n, c, (bodyAt l 0).drop 19⟩ → Calls Tryz.prog 92 #[knV (knAt kn (askG (bodyAt l 0)) u), askV 1 (askG (bodyAt l 0) : Nat) (askW (bodyAt l 0) : Nat) (askB (bodyAt l 0) : Nat) (some ⟨ga, o, none⟩) n c] W fun x w' => x = .returned (.tuple #[knV k', .int .i64 0]) ∧ Below W.heap.size W w')
    (hkeep : ∀ W, AUp W F B s kn → Calls Tryz.prog 63 #[.pointer (some ⟨B, 0, none⟩), .agg #[.int .i64 (askG (bodyAt l 0) : Nat), .int .i64 (u : Int)], knV k'] W fun x w' => x = .returned (.int .i64 (e : Int)) ∧ AMoved F B s' kn' W w') :
    Calls Tryz.prog 29 #[.pointer (some ⟨B, 0, none⟩), .slice ad len cap] w (APost F B s' kn' (frameBs 4 (ansN e u (knAt kn' (askG (bodyAt l 0)) u).p (knAt kn' (askG (bodyAt l 0)) u).b (knAt kn' (askG (bodyAt l 0)) u).s.toNat (knAt kn' (askG (bodyAt l 0)) u).v)) w) := by
  
  have hgl : askG (bodyAt l 0) < 281474976710656 := by
    unfold askIn at hin
    exact (askMay_lim hin).2.1
  have HG0 := getAsk_yes ad len cap l w hp hlc hm hu hin
  rw [hk] at HG0
  obtain ⟨g, hg0⟩ : ∃ g, g = askG (bodyAt l 0) := ⟨_, rfl⟩
  obtain ⟨v, hv0⟩ : ∃ v, v = askW (bodyAt l 0) := ⟨_, rfl⟩
  obtain ⟨b, hb0⟩ : ∃ b, b = askB (bodyAt l 0) := ⟨_, rfl⟩
  rw [← hg0, ← hv0, ← hb0] at HG0 habout hrule
  rw [← hg0] at hgl ⊢
  rw [← hg0] at hkeep
  clear hg0 hv0 hb0 hu hin hk hp hlc hm
  obtain ⟨S, D, M, FD, G, X, Y, fx, fy, f, A, hap⟩ := h
  have HU := up_up hap.box
  have h : AUp w F B s kn := ⟨S, D, M, FD, G, X, Y, fx, fy, f, A, hap⟩
  have HN : Hid (AUp w F B s kn) := h
  have HLT : Hid (∀ g ∈ F, g < w.heap.size) := hid h.lt
  have HLK : Hid (∀ W, Below w.heap.size w W → (Instr.lookup 68 (.map (some M)) (.agg #[.int .i64 (g : Int), .int .i64 (u : Int)]) false).run Tryz.prog W = .ok (knV (knAt kn g u)) W) := hid (fun W hW => (hap.kmap.keep (hW.block M (hap.lt M hap.mM))).look hgl hul)
  have HB2 : Hid (∀ W, Below w.heap.size w W → W.cell? ⟨B, 2, none⟩ = some (.map (some M))) := hid (fun W hW => (h.lt B hap.mB |> fun _ => (blk_below hap.box hW (h.lt B hap.mB)).cell 2))
  have HAB : Hid (∀ (W : World) (ga o n c : Nat), Below w.heap.size w W → Calls Tryz.prog 61 #[.pointer (some ⟨B, 0, none⟩), .agg #[.int .i64 1, .int .i64 (g : Int), .int .i64 (v : Int), .int .i64 (b : Int), .slice (some ⟨ga, o, none⟩) n c]] W fun x w' => x = .returned (.agg #[.int .i64 (g : Int), .int .i64 (u : Int)]) ∧ Below W.heap.size W w') := habout
  obtain ⟨⟨kp, kb, ks, kv⟩, hkk⟩ : ∃ k0, knAt kn g u = k0 := ⟨_, rfl⟩
  obtain ⟨qp, qb, qs, qv⟩ := k'
  rw [hkk] at hrule HLK
  unfold knV at hrule HLK
  unfold askV at hrule HG0
  simp only at hrule HLK
  have HG := HG0
  -- behind keep
  have HKM : Hid ((knAt kn' g u).ok ∨ True) := hid (Or.inr trivial)
  clear HKM
  have HRU : Hid (∀ (W : World) (ga o n c : Nat), Part.ok W ⟨some ⟨ga, o, none⟩, n, c, (bodyAt l 0).drop 19⟩ → Calls Tryz.prog 92 #[.agg #[.int .i64 (kp : Int), .int .i64 (kb : Int), .bool ks, .string (bstr kv)], .agg #[.int .i64 1, .int .i64 (g : Int), .int .i64 (v : Int), .int .i64 (b : Int), .slice (some ⟨ga, o, none⟩) n c]] W fun x w' => x = .returned (.tuple #[.agg #[.int .i64 (qp : Int), .int .i64 (qb : Int), .bool qs, .string (bstr qv)], .int .i64 0]) ∧ Below W.heap.size W w') := hrule
  have HKP : Hid (∀ W, AUp W F B s kn → Calls Tryz.prog 63 #[.pointer (some ⟨B, 0, none⟩), .agg #[.int .i64 (g : Int), .int .i64 (u : Int)], .agg #[.int .i64 (qp : Int), .int .i64 (qb : Int), .bool qs, .string (bstr qv)]] W fun x w' => x = .returned (.int .i64 (e : Int)) ∧ AMoved F B s' kn' W w') := hkeep
  clear hkeep
  clear habout hrule HG0 hkk h hap
  generalize bstr kv = kstr at *
  generalize bstr qv = qstr at *
  have he8' : ((e : Int) == 8) = false := by simp; omega
  go_enter Tryz.func29, Tryz.ntmps29
  go_upto_region 7 with (first
    | (go_at_call 31; refine HU.mono ?_; rintro x w' ⟨rfl, hw'⟩; obtain rfl := hw'.symm)
    | (go_at_call 15; refine HG.mono ?_; rintro x V ⟨ga, o, n, c, rfl, KP, hb⟩; have BV : Hid (Below w.heap.size w V) := hb; have BV1 : Hid (Below w.heap.size w (V.alloc (.cells #[.int .i64 1, .int .i64 (g : Int), .int .i64 (v : Int), .int .i64 (b : Int), .slice (some ⟨ga, o, none⟩) n c] 30))) := hid (hb.alloc hb.size _); clear hb HG HU)
    | (go_at_call 61; (with_reducible_and_instances (refine (HAB.out (V.alloc (.cells #[.int .i64 1, .int .i64 (g : Int), .int .i64 (v : Int), .int .i64 (b : Int), .slice (some ⟨ga, o, none⟩) n c] 30)) ga o n c BV1.out).mono ?_)); rintro x U ⟨rfl, hb⟩; have KU : Hid (Part.ok (U.alloc (.cells #[.int .i64 (g : Int), .int .i64 (u : Int)] 110)) ⟨some ⟨ga, o, none⟩, n, c, (bodyAt l 0).drop 19⟩) := hid (((KP.out.later ((Below.refl _ _).alloc (Nat.le_refl _) _)).later hb).later ((Below.refl _ _).alloc (Nat.le_refl _) _)); have MU : Hid (Mids w V.heap.size U.heap.size #[.int .i64 1, .int .i64 (g : Int), .int .i64 (v : Int), .int .i64 (b : Int), .slice (some ⟨ga, o, none⟩) n c] #[.int .i64 (g : Int), .int .i64 (u : Int)] (U.alloc (.cells #[.int .i64 (g : Int), .int .i64 (u : Int)] 110))) := hid ⟨(BV1.out.trans (hb.mono BV1.out.size)).alloc (Nat.le_trans BV1.out.size hb.size) _, (blk_new _ V _ |> fun q => (q.later hb).later ((Below.refl _ _).alloc (Nat.le_refl _) _)), blk_new _ _ _, BV.out.size, Nat.le_trans BV1.out.size hb.size⟩; clear hb HAB))
  obtain ⟨W1, hW1⟩ : ∃ W1, U.alloc (.cells #[.int .i64 (g : Int), .int .i64 (u : Int)] 110) = W1 := ⟨_, rfl⟩
  rw [hW1] at KU MU ⊢
  clear hW1
  have MD : Hid (Mids w V.heap.size U.heap.size #[.int .i64 1, .int .i64 (g : Int), .int .i64 (v : Int), .int .i64 (b : Int), .slice (some ⟨ga, o, none⟩) n c] #[.int .i64 (g : Int), .int .i64 (u : Int)] W1.drew) := hid (MU.out.later (Below.refl _ _).drew)
  have HS : Hid (∀ W, Mids w V.heap.size U.heap.size #[.int .i64 1, .int .i64 (g : Int), .int .i64 (v : Int), .int .i64 (b : Int), .slice (some ⟨ga, o, none⟩) n c] #[.int .i64 (g : Int), .int .i64 (u : Int)] W → (W.cell? ⟨B, 2, none⟩ = some (.map (some M)) ∧ W.cell? ⟨V.heap.size, 0, none⟩ = some (.int .i64 1) ∧ W.cell? ⟨V.heap.size, 1, none⟩ = some (.int .i64 (g : Int)) ∧ W.cell? ⟨V.heap.size, 2, none⟩ = some (.int .i64 (v : Int)) ∧ W.cell? ⟨V.heap.size, 3, none⟩ = some (.int .i64 (b : Int)) ∧ W.cell? ⟨V.heap.size, 4, none⟩ = some (.slice (some ⟨ga, o, none⟩) n c) ∧ W.cell? ⟨U.heap.size, 0, none⟩ = some (.int .i64 (g : Int)) ∧ W.cell? ⟨U.heap.size, 1, none⟩ = some (.int .i64 (u : Int))) ∧ (Instr.lookup 68 (.map (some M)) (.agg #[.int .i64 (g : Int), .int .i64 (u : Int)]) false).run Tryz.prog W = .ok (.agg #[.int .i64 (kp : Int), .int .i64 (kb : Int), .bool ks, .string kstr]) W) := hid (fun W hW => ⟨⟨HB2.out W hW.below, hW.b1.cell 0, hW.b1.cell 1, hW.b1.cell 2, hW.b1.cell 3, hW.b1.cell 4, hW.b2.cell 0, hW.b2.cell 1⟩, HLK.out W hW.below⟩)
  have HS1 : Hid (∀ W, Below W1.heap.size W1 W → (W.cell? ⟨B, 2, none⟩ = some (.map (some M)) ∧ W.cell? ⟨V.heap.size, 0, none⟩ = some (.int .i64 1) ∧ W.cell? ⟨V.heap.size, 1, none⟩ = some (.int .i64 (g : Int)) ∧ W.cell? ⟨V.heap.size, 2, none⟩ = some (.int .i64 (v : Int)) ∧ W.cell? ⟨V.heap.size, 3, none⟩ = some (.int .i64 (b : Int)) ∧ W.cell? ⟨V.heap.size, 4, none⟩ = some (.slice (some ⟨ga, o, none⟩) n c) ∧ W.cell? ⟨U.heap.size, 0, none⟩ = some (.int .i64 (g : Int)) ∧ W.cell? ⟨U.heap.size, 1, none⟩ = some (.int .i64 (u : Int))) ∧ (Instr.lookup 68 (.map (some M)) (.agg #[.int .i64 (g : Int), .int .i64 (u : Int)]) false).run Tryz.prog W = .ok (.agg #[.int .i64 (kp : Int), .int .i64 (kb : Int), .bool ks, .string kstr]) W) := hid (fun W hW => HS.out W (MU.out.later hW))
  have HZR : Hid (Below W1.heap.size W1 ((W1.alloc (.cells #[.int .i64 0, .int .i64 0, .bool false, .string ⟨#[]⟩] 113)).alloc (.cells #[.nilFunc, .func (.func 92) #[] #[], .func (.func 93) #[] #[], .func (.func 94) #[] #[], .func (.func 95) #[] #[]] 116)).drew ∧ Blk ((W1.alloc (.cells #[.int .i64 0, .int .i64 0, .bool false, .string ⟨#[]⟩] 113)).alloc (.cells #[.nilFunc, .func (.func 92) #[] #[], .func (.func 93) #[] #[], .func (.func 94) #[] #[], .func (.func 95) #[] #[]] 116)).drew W1.heap.size #[.int .i64 0, .int .i64 0, .bool false, .string ⟨#[]⟩] 113) := hid ⟨((((Below.refl _ W1).alloc (Nat.le_refl _) _).alloc (by simp) _)).drew, blk_below (N := W1.heap.size + 1) (blk_new _ W1 _) (((Below.refl _ _).alloc (by simp) _).drew) (by omega)⟩
  have HRZ : Hid (Below W1.heap.size W1 ((W1.alloc (.cells #[.nilFunc, .func (.func 92) #[] #[], .func (.func 93) #[] #[], .func (.func 94) #[] #[], .func (.func 95) #[] #[]] 116)).alloc (.cells #[.int .i64 0, .int .i64 0, .bool false, .string ⟨#[]⟩] 113)).drew ∧ Blk ((W1.alloc (.cells #[.nilFunc, .func (.func 92) #[] #[], .func (.func 93) #[] #[], .func (.func 94) #[] #[], .func (.func 95) #[] #[]] 116)).alloc (.cells #[.int .i64 0, .int .i64 0, .bool false, .string ⟨#[]⟩] 113)).drew (W1.heap.size + 1) #[.int .i64 0, .int .i64 0, .bool false, .string ⟨#[]⟩] 113) := hid ⟨((((Below.refl _ W1).alloc (Nat.le_refl _) _).alloc (by simp) _)).drew, blk_below (N := W1.heap.size + 2) (last2 _ _ _ _) ((Below.refl _ _).drew) (by omega)⟩
  have HR1 : Hid (Below W1.heap.size W1 (W1.alloc (.cells #[.nilFunc, .func (.func 92) #[] #[], .func (.func 93) #[] #[], .func (.func 94) #[] #[], .func (.func 95) #[] #[]] 116)).drew) := hid (((Below.refl _ W1).alloc (Nat.le_refl _) _).drew)
  have hix := fun W => (rules_at .nilFunc (.func (.func 92) #[] #[]) (.func (.func 93) #[] #[]) (.func (.func 94) #[] #[]) (.func (.func 95) #[] #[]) W).1
  go_cut [6, 8] (fun x6 x8 wx => x6 = .int .i64 0 ∧ ∃ Gb, x8 = .pointer (some ⟨Gb, 0, none⟩) ∧ Hid (Mids w V.heap.size U.heap.size #[.int .i64 1, .int .i64 (g : Int), .int .i64 (v : Int), .int .i64 (b : Int), .slice (some ⟨ga, o, none⟩) n c] #[.int .i64 (g : Int), .int .i64 (u : Int)] wx ∧ Blk wx Gb #[.int .i64 (qp : Int), .int .i64 (qb : Int), .bool qs, .string qstr] 113))
  case first =>
    refine wp_region_held_drew (S := fun W => (W.cell? ⟨B, 2, none⟩ = some (.map (some M)) ∧ W.cell? ⟨V.heap.size, 0, none⟩ = some (.int .i64 1) ∧ W.cell? ⟨V.heap.size, 1, none⟩ = some (.int .i64 (g : Int)) ∧ W.cell? ⟨V.heap.size, 2, none⟩ = some (.int .i64 (v : Int)) ∧ W.cell? ⟨V.heap.size, 3, none⟩ = some (.int .i64 (b : Int)) ∧ W.cell? ⟨V.heap.size, 4, none⟩ = some (.slice (some ⟨ga, o, none⟩) n c) ∧ W.cell? ⟨U.heap.size, 0, none⟩ = some (.int .i64 (g : Int)) ∧ W.cell? ⟨U.heap.size, 1, none⟩ = some (.int .i64 (u : Int))) ∧ (Instr.lookup 68 (.map (some M)) (.agg #[.int .i64 (g : Int), .int .i64 (u : Int)]) false).run Tryz.prog W = .ok (.agg #[.int .i64 (kp : Int), .int .i64 (kb : Int), .bool ks, .string kstr]) W) (by kernel_rfl) (HS1.out _ (Below.refl _ _).drew) (fun hHeld => ?_)
    refine wpAnyH_take (i := 1) (oi := { dst := some 28, op := Op.fieldAddr 30 (Operand.tmp 5) 0, type := 0, pos := "acceptor.go:40", after := #[], guard := none }) (v := ?_) rfl (by kernel_rfl) (by kernel_rfl) (by kernel_rfl) (fun _ _ _ h => h) (Or.inl ⟨by rfl, ?_⟩) hHeld ?_
    rotate_left
    · intro w hSw; (try dsimp only at hSw); go_simp; try with_reducible rfl
    try simp only [Act.put, List.setIfInBounds_toArray, List.set_cons_zero, List.set_cons_succ]
    refine wpAnyH_take (i := 2) (oi := { dst := some 29, op := Op.load 3 (Operand.tmp 28), type := 3, pos := "acceptor.go:40", after := #[{ on := 1, ground := Ground.data }], guard := none }) (v := ?_) rfl (by kernel_rfl) (by kernel_rfl) (by kernel_rfl) (fun _ _ _ h => h) (Or.inl ⟨by rfl, ?_⟩) hHeld ?_
    rotate_left
    · intro w hSw; (try dsimp only at hSw); go_simp; try with_reducible rfl
    try simp only [Act.put, List.setIfInBounds_toArray, List.set_cons_zero, List.set_cons_succ]
    refine wpAnyH_take (i := 4) (oi := { dst := some 31, op := Op.move (Operand.tmp 0), type := 54, pos := "acceptor.go:40", after := #[], guard := none }) (v := ?_) rfl (by kernel_rfl) (by kernel_rfl) (by kernel_rfl) (fun _ _ _ h => h) (Or.inl ⟨by rfl, ?_⟩) hHeld ?_
    rotate_left
    · intro w hSw; (try dsimp only at hSw); go_simp; try with_reducible rfl
    try simp only [Act.put, List.setIfInBounds_toArray, List.set_cons_zero, List.set_cons_succ]
    refine wpAnyH_take (i := 5) (oi := { dst := some 32, op := Op.nilCheck (Operand.tmp 31), type := 0, pos := "acceptor.go:40", after := #[{ on := 4, ground := Ground.data }], guard := none }) (v := ?_) rfl (by kernel_rfl) (by kernel_rfl) (by kernel_rfl) (fun _ _ _ h => h) (Or.inl ⟨by rfl, ?_⟩) hHeld ?_
    rotate_left
    · intro w hSw; (try dsimp only at hSw); go_simp; try with_reducible rfl
    try simp only [Act.put, List.setIfInBounds_toArray, List.set_cons_zero, List.set_cons_succ]
    refine wpAnyH_take (i := 6) (oi := { dst := some 33, op := Op.fieldAddr 70 (Operand.tmp 32) 2, type := 0, pos := "acceptor.go:40", after := #[{ on := 5, ground := Ground.data }], guard := none }) (v := ?_) rfl (by kernel_rfl) (by kernel_rfl) (by kernel_rfl) (fun _ _ _ h => h) (Or.inl ⟨by rfl, ?_⟩) hHeld ?_
    rotate_left
    · intro w hSw; (try dsimp only at hSw); go_simp; try with_reducible rfl
    try simp only [Act.put, List.setIfInBounds_toArray, List.set_cons_zero, List.set_cons_succ]
    refine wpAnyH_take (i := 7) (oi := { dst := some 34, op := Op.load 68 (Operand.tmp 33), type := 68, pos := "acceptor.go:40", after := #[{ on := 6, ground := Ground.data }], guard := none }) (v := ?_) rfl (by kernel_rfl) (by kernel_rfl) (by kernel_rfl) (fun _ _ _ h => h) (Or.inl ⟨by rfl, ?_⟩) hHeld ?_
    rotate_left
    · intro w hSw; (try dsimp only at hSw); go_simp; try with_reducible rfl
    try simp only [Act.put, List.setIfInBounds_toArray, List.set_cons_zero, List.set_cons_succ]
    refine wpAnyH_take (i := 8) (oi := { dst := some 35, op := Op.load 110 (Operand.tmp 7), type := 110, pos := "acceptor.go:40", after := #[], guard := none }) (v := ?_) rfl (by kernel_rfl) (by kernel_rfl) (by kernel_rfl) (fun _ _ _ h => h) (Or.inl ⟨by rfl, ?_⟩) hHeld ?_
    rotate_left
    · intro w hSw; (try dsimp only at hSw); go_simp; try with_reducible rfl
    try simp only [Act.put, List.setIfInBounds_toArray, List.set_cons_zero, List.set_cons_succ]
    refine wpAnyH_take (i := 9) (oi := { dst := some 36, op := Op.lookup 68 (Operand.tmp 34) (Operand.tmp 35) false, type := 113, pos := "acceptor.go:40", after := #[{ on := 7, ground := Ground.data }, { on := 8, ground := Ground.data }], guard := none }) (v := ?_) rfl (by kernel_rfl) (by kernel_rfl) (by kernel_rfl) (fun _ _ _ h => h) (Or.inl ⟨by rfl, ?_⟩) hHeld ?_
    rotate_left
    · intro w hSw; (try dsimp only at hSw); go_simp; try with_reducible rfl
    try simp only [Act.put, List.setIfInBounds_toArray, List.set_cons_zero, List.set_cons_succ]
    refine wpAnyH_take (i := 10) (oi := { dst := some 37, op := Op.load 30 (Operand.tmp 5), type := 30, pos := "acceptor.go:40", after := #[], guard := none }) (v := ?_) rfl (by kernel_rfl) (by kernel_rfl) (by kernel_rfl) (fun _ _ _ h => h) (Or.inl ⟨by rfl, ?_⟩) hHeld ?_
    rotate_left
    · intro w hSw; (try dsimp only at hSw); go_simp; try with_reducible rfl
    try simp only [Act.put, List.setIfInBounds_toArray, List.set_cons_zero, List.set_cons_succ]
    refine wpAnyH_ready (rs := [0, 15]) (by kernel_rfl) (by simp) ?_
    refine AllReadyH.cons rfl (fun K hK => ?_) (AllReadyH.cons rfl (fun K hK => ?_) (AllReadyH.nil))
    · skip
      go_simp
      go_wp2_with (go_at_call 62; refine (rules_any _).mono ?_; rintro x w' ⟨rfl, hw'⟩; obtain rfl := hw'.symm)
      refine hK.out _ _ (HS1.out _ (HR1.out)) (fun hHeld => ?_)
      clear hK K
      try simp only [Act.put, List.setIfInBounds_toArray, List.set_cons_zero, List.set_cons_succ]
      refine wpAnyH_take (i := 3) (oi := { dst := some 30, op := Op.index 116 (Operand.tmp 27) (Operand.tmp 29), type := 115, pos := "acceptor.go:40", after := #[{ on := 0, ground := Ground.data }, { on := 2, ground := Ground.data }], guard := none }) (v := ?_) rfl (by kernel_rfl) (by kernel_rfl) (by kernel_rfl) (fun _ _ _ h => h) (Or.inl ⟨by rfl, ?_⟩) hHeld ?_
      rotate_left
      · intro w hSw; (try dsimp only at hSw); go_simp; try with_reducible rfl
      try simp only [Act.put, List.setIfInBounds_toArray, List.set_cons_zero, List.set_cons_succ]
      refine wpAnyH_ready (rs := [11, 15]) (by kernel_rfl) (by simp) ?_
      refine AllReadyH.cons rfl (fun K hK => ?_) (AllReadyH.cons rfl (fun K hK => ?_) (AllReadyH.nil))
      · skip
        go_simp
        go_wp2_with (go_at_call 92; (with_reducible_and_instances (refine (HRU.out (W1.alloc (.cells #[.nilFunc, .func (.func 92) #[] #[], .func (.func 93) #[] #[], .func (.func 94) #[] #[], .func (.func 95) #[] #[]] 116)).drew ga o n c (KU.out.later HR1.out)).mono ?_)); rintro x w2 ⟨rfl, b2⟩; have B2 : Hid (Below W1.heap.size W1 w2) := hid (HR1.out.trans (b2.mono HR1.out.size)); clear b2)
        refine hK.out _ _ (HS1.out _ (B2.out)) (fun hHeld => ?_)
        clear hK K
        try simp only [Act.put, List.setIfInBounds_toArray, List.set_cons_zero, List.set_cons_succ]
        refine wpAnyH_take (i := 12) (oi := { dst := some 26, op := Op.move (Operand.tmp 38), type := 114, pos := "acceptor.go:40", after := #[{ on := 11, ground := Ground.data }], guard := none }) (v := ?_) rfl (by kernel_rfl) (by kernel_rfl) (by kernel_rfl) (fun _ _ _ h => h) (Or.inl ⟨by rfl, ?_⟩) hHeld ?_
        rotate_left
        · intro w hSw; (try dsimp only at hSw); go_simp; try with_reducible rfl
        try simp only [Act.put, List.setIfInBounds_toArray, List.set_cons_zero, List.set_cons_succ]
        refine wpAnyH_take (i := 13) (oi := { dst := some 39, op := Op.extract (Operand.tmp 26) 0, type := 113, pos := "acceptor.go:40", after := #[{ on := 12, ground := Ground.data }], guard := none }) (v := ?_) rfl (by kernel_rfl) (by kernel_rfl) (by kernel_rfl) (fun _ _ _ h => h) (Or.inl ⟨by rfl, ?_⟩) hHeld ?_
        rotate_left
        · intro w hSw; (try dsimp only at hSw); go_simp; try with_reducible rfl
        try simp only [Act.put, List.setIfInBounds_toArray, List.set_cons_zero, List.set_cons_succ]
        refine wpAnyH_take (i := 14) (oi := { dst := some 40, op := Op.extract (Operand.tmp 26) 1, type := 27, pos := "acceptor.go:40", after := #[{ on := 12, ground := Ground.data }, { on := 16, ground := Ground.gcOnly Departure.lateStores }], guard := none }) (v := ?_) rfl (by kernel_rfl) (by kernel_rfl) (by kernel_rfl) (fun _ _ _ h => h) (Or.inl ⟨by rfl, ?_⟩) hHeld ?_
        rotate_left
        · intro w hSw; (try dsimp only at hSw); go_simp; try with_reducible rfl
        try simp only [Act.put, List.setIfInBounds_toArray, List.set_cons_zero, List.set_cons_succ]
        refine wpAnyH_ready (rs := [15]) (by kernel_rfl) (by simp) ?_
        refine AllReadyH.cons rfl (fun K hK => ?_) (AllReadyH.nil)
        go_simp
        refine hK.out _ _ (HS1.out _ (B2.out.alloc B2.out.size _)) (fun hHeld => ?_)
        clear hK K
        try simp only [Act.put, List.setIfInBounds_toArray, List.set_cons_zero, List.set_cons_succ]
        refine wpAnyH_ready (rs := [16]) (by kernel_rfl) (by simp) ?_
        refine AllReadyH.cons rfl (fun K hK => ?_) (AllReadyH.nil)
        go_simp
        refine hK.out _ _ (HS1.out _ (B2.out.alloc B2.out.size _)) (fun hHeld => ?_)
        clear hK K
        try simp only [Act.put, List.setIfInBounds_toArray, List.set_cons_zero, List.set_cons_succ]
        refine wpAnyH_take (i := 17) (oi := { dst := some 6, op := Op.assign (Operand.tmp 40), type := 27, pos := "acceptor.go:40", after := #[{ on := 14, ground := Ground.data }, { on := 16, ground := Ground.chain }, { on := 0, ground := Ground.phase }, { on := 1, ground := Ground.phase }, { on := 2, ground := Ground.phase }, { on := 3, ground := Ground.phase }, { on := 4, ground := Ground.phase }, { on := 5, ground := Ground.phase }, { on := 6, ground := Ground.phase }, { on := 7, ground := Ground.phase }, { on := 8, ground := Ground.phase }, { on := 9, ground := Ground.phase }, { on := 10, ground := Ground.phase }, { on := 11, ground := Ground.phase }, { on := 12, ground := Ground.phase }, { on := 13, ground := Ground.phase }, { on := 14, ground := Ground.phase }, { on := 15, ground := Ground.phase }, { on := 16, ground := Ground.phase }], guard := none }) (v := ?_) rfl (by kernel_rfl) (by kernel_rfl) (by kernel_rfl) (fun _ _ _ h => h) (Or.inl ⟨by rfl, ?_⟩) hHeld ?_
        rotate_left
        · intro w hSw; (try dsimp only at hSw); go_simp; try with_reducible rfl
        try simp only [Act.put, List.setIfInBounds_toArray, List.set_cons_zero, List.set_cons_succ]
        refine wpAnyH_done (by kernel_rfl) ?_ _
        go_wp2_with fail
        go_meet
        exact ⟨rfl, _, rfl, hid ⟨MU.out.later (B2.out.alloc B2.out.size _), blk_new _ _ _⟩⟩
      · skip
        go_simp
        refine hK.out _ _ (HS1.out _ (HRZ.out.1)) (fun hHeld => ?_)
        clear hK K
        try simp only [Act.put, List.setIfInBounds_toArray, List.set_cons_zero, List.set_cons_succ]
        refine wpAnyH_ready (rs := [11]) (by kernel_rfl) (by simp) ?_
        refine AllReadyH.cons rfl (fun K hK => ?_) (AllReadyH.nil)
        go_simp
        go_wp2_with (go_at_call 92; (with_reducible_and_instances (refine (HRU.out ((W1.alloc (.cells #[.nilFunc, .func (.func 92) #[] #[], .func (.func 93) #[] #[], .func (.func 94) #[] #[], .func (.func 95) #[] #[]] 116)).alloc (.cells #[.int .i64 0, .int .i64 0, .bool false, .string ⟨#[]⟩] 113)).drew ga o n c (KU.out.later HRZ.out.1)).mono ?_)); rintro x w2 ⟨rfl, b2⟩; have B2 : Hid (Below W1.heap.size W1 w2) := hid (HRZ.out.1.trans (b2.mono HRZ.out.1.size)); have N2 : Hid (Blk w2 (W1.heap.size + 1) #[.int .i64 0, .int .i64 0, .bool false, .string ⟨#[]⟩] 113) := hid (HRZ.out.2.later b2); obtain ⟨⟨c0, c1, c2, c3⟩, f0, f1, f2, f3⟩ := blk4 N2.out; clear b2)
        refine hK.out _ _ (HS1.out _ (B2.out)) (fun hHeld => ?_)
        clear hK K
        try simp only [Act.put, List.setIfInBounds_toArray, List.set_cons_zero, List.set_cons_succ]
        refine wpAnyH_take (i := 12) (oi := { dst := some 26, op := Op.move (Operand.tmp 38), type := 114, pos := "acceptor.go:40", after := #[{ on := 11, ground := Ground.data }], guard := none }) (v := ?_) rfl (by kernel_rfl) (by kernel_rfl) (by kernel_rfl) (fun _ _ _ h => h) (Or.inl ⟨by rfl, ?_⟩) hHeld ?_
        rotate_left
        · intro w hSw; (try dsimp only at hSw); go_simp; try with_reducible rfl
        try simp only [Act.put, List.setIfInBounds_toArray, List.set_cons_zero, List.set_cons_succ]
        refine wpAnyH_take (i := 13) (oi := { dst := some 39, op := Op.extract (Operand.tmp 26) 0, type := 113, pos := "acceptor.go:40", after := #[{ on := 12, ground := Ground.data }], guard := none }) (v := ?_) rfl (by kernel_rfl) (by kernel_rfl) (by kernel_rfl) (fun _ _ _ h => h) (Or.inl ⟨by rfl, ?_⟩) hHeld ?_
        rotate_left
        · intro w hSw; (try dsimp only at hSw); go_simp; try with_reducible rfl
        try simp only [Act.put, List.setIfInBounds_toArray, List.set_cons_zero, List.set_cons_succ]
        refine wpAnyH_take (i := 14) (oi := { dst := some 40, op := Op.extract (Operand.tmp 26) 1, type := 27, pos := "acceptor.go:40", after := #[{ on := 12, ground := Ground.data }, { on := 16, ground := Ground.gcOnly Departure.lateStores }], guard := none }) (v := ?_) rfl (by kernel_rfl) (by kernel_rfl) (by kernel_rfl) (fun _ _ _ h => h) (Or.inl ⟨by rfl, ?_⟩) hHeld ?_
        rotate_left
        · intro w hSw; (try dsimp only at hSw); go_simp; try with_reducible rfl
        try simp only [Act.put, List.setIfInBounds_toArray, List.set_cons_zero, List.set_cons_succ]
        refine wpAnyH_ready (rs := [16]) (by kernel_rfl) (by simp) ?_
        refine AllReadyH.cons rfl (fun K hK => ?_) (AllReadyH.nil)
        go_simp
        refine hK.out _ _ (HS1.out _ (below_s4 B2.out (Nat.le_succ _) _ _ _ _)) (fun hHeld => ?_)
        clear hK K
        try simp only [Act.put, List.setIfInBounds_toArray, List.set_cons_zero, List.set_cons_succ]
        refine wpAnyH_take (i := 17) (oi := { dst := some 6, op := Op.assign (Operand.tmp 40), type := 27, pos := "acceptor.go:40", after := #[{ on := 14, ground := Ground.data }, { on := 16, ground := Ground.chain }, { on := 0, ground := Ground.phase }, { on := 1, ground := Ground.phase }, { on := 2, ground := Ground.phase }, { on := 3, ground := Ground.phase }, { on := 4, ground := Ground.phase }, { on := 5, ground := Ground.phase }, { on := 6, ground := Ground.phase }, { on := 7, ground := Ground.phase }, { on := 8, ground := Ground.phase }, { on := 9, ground := Ground.phase }, { on := 10, ground := Ground.phase }, { on := 11, ground := Ground.phase }, { on := 12, ground := Ground.phase }, { on := 13, ground := Ground.phase }, { on := 14, ground := Ground.phase }, { on := 15, ground := Ground.phase }, { on := 16, ground := Ground.phase }], guard := none }) (v := ?_) rfl (by kernel_rfl) (by kernel_rfl) (by kernel_rfl) (fun _ _ _ h => h) (Or.inl ⟨by rfl, ?_⟩) hHeld ?_
        rotate_left
        · intro w hSw; (try dsimp only at hSw); go_simp; try with_reducible rfl
        try simp only [Act.put, List.setIfInBounds_toArray, List.set_cons_zero, List.set_cons_succ]
        refine wpAnyH_done (by kernel_rfl) ?_ _
        go_wp2_with fail
        go_meet
        exact ⟨rfl, _, rfl, hid ⟨MU.out.later (below_s4 B2.out (Nat.le_succ _) _ _ _ _), blk_s4 N2.out _ _ _ _⟩⟩
    · skip
      go_simp
      refine hK.out _ _ (HS1.out _ (((Below.refl _ W1).alloc (Nat.le_refl _) _).drew)) (fun hHeld => ?_)
      clear hK K
      try simp only [Act.put, List.setIfInBounds_toArray, List.set_cons_zero, List.set_cons_succ]
      refine wpAnyH_ready (rs := [0]) (by kernel_rfl) (by simp) ?_
      refine AllReadyH.cons rfl (fun K hK => ?_) (AllReadyH.nil)
      go_simp
      go_wp2_with (go_at_call 62; refine (rules_any _).mono ?_; rintro x w' ⟨rfl, hw'⟩; obtain rfl := hw'.symm)
      refine hK.out _ _ (HS1.out _ (HZR.out.1)) (fun hHeld => ?_)
      clear hK K
      try simp only [Act.put, List.setIfInBounds_toArray, List.set_cons_zero, List.set_cons_succ]
      refine wpAnyH_take (i := 3) (oi := { dst := some 30, op := Op.index 116 (Operand.tmp 27) (Operand.tmp 29), type := 115, pos := "acceptor.go:40", after := #[{ on := 0, ground := Ground.data }, { on := 2, ground := Ground.data }], guard := none }) (v := ?_) rfl (by kernel_rfl) (by kernel_rfl) (by kernel_rfl) (fun _ _ _ h => h) (Or.inl ⟨by rfl, ?_⟩) hHeld ?_
      rotate_left
      · intro w hSw; (try dsimp only at hSw); go_simp; try with_reducible rfl
      try simp only [Act.put, List.setIfInBounds_toArray, List.set_cons_zero, List.set_cons_succ]
      refine wpAnyH_ready (rs := [11]) (by kernel_rfl) (by simp) ?_
      refine AllReadyH.cons rfl (fun K hK => ?_) (AllReadyH.nil)
      go_simp
      go_wp2_with (go_at_call 92; (with_reducible_and_instances (refine (HRU.out ((W1.alloc (.cells #[.int .i64 0, .int .i64 0, .bool false, .string ⟨#[]⟩] 113)).alloc (.cells #[.nilFunc, .func (.func 92) #[] #[], .func (.func 93) #[] #[], .func (.func 94) #[] #[], .func (.func 95) #[] #[]] 116)).drew ga o n c (KU.out.later HZR.out.1)).mono ?_)); rintro x w2 ⟨rfl, b2⟩; have B2 : Hid (Below W1.heap.size W1 w2) := hid (HZR.out.1.trans (b2.mono HZR.out.1.size)); have N2 : Hid (Blk w2 W1.heap.size #[.int .i64 0, .int .i64 0, .bool false, .string ⟨#[]⟩] 113) := hid (HZR.out.2.later b2); obtain ⟨⟨c0, c1, c2, c3⟩, f0, f1, f2, f3⟩ := blk4 N2.out; clear b2)
      refine hK.out _ _ (HS1.out _ (B2.out)) (fun hHeld => ?_)
      clear hK K
      try simp only [Act.put, List.setIfInBounds_toArray, List.set_cons_zero, List.set_cons_succ]
      refine wpAnyH_take (i := 12) (oi := { dst := some 26, op := Op.move (Operand.tmp 38), type := 114, pos := "acceptor.go:40", after := #[{ on := 11, ground := Ground.data }], guard := none }) (v := ?_) rfl (by kernel_rfl) (by kernel_rfl) (by kernel_rfl) (fun _ _ _ h => h) (Or.inl ⟨by rfl, ?_⟩) hHeld ?_
      rotate_left
      · intro w hSw; (try dsimp only at hSw); go_simp; try with_reducible rfl
      try simp only [Act.put, List.setIfInBounds_toArray, List.set_cons_zero, List.set_cons_succ]
      refine wpAnyH_take (i := 13) (oi := { dst := some 39, op := Op.extract (Operand.tmp 26) 0, type := 113, pos := "acceptor.go:40", after := #[{ on := 12, ground := Ground.data }], guard := none }) (v := ?_) rfl (by kernel_rfl) (by kernel_rfl) (by kernel_rfl) (fun _ _ _ h => h) (Or.inl ⟨by rfl, ?_⟩) hHeld ?_
      rotate_left
      · intro w hSw; (try dsimp only at hSw); go_simp; try with_reducible rfl
      try simp only [Act.put, List.setIfInBounds_toArray, List.set_cons_zero, List.set_cons_succ]
      refine wpAnyH_take (i := 14) (oi := { dst := some 40, op := Op.extract (Operand.tmp 26) 1, type := 27, pos := "acceptor.go:40", after := #[{ on := 12, ground := Ground.data }, { on := 16, ground := Ground.gcOnly Departure.lateStores }], guard := none }) (v := ?_) rfl (by kernel_rfl) (by kernel_rfl) (by kernel_rfl) (fun _ _ _ h => h) (Or.inl ⟨by rfl, ?_⟩) hHeld ?_
      rotate_left
      · intro w hSw; (try dsimp only at hSw); go_simp; try with_reducible rfl
      try simp only [Act.put, List.setIfInBounds_toArray, List.set_cons_zero, List.set_cons_succ]
      refine wpAnyH_ready (rs := [16]) (by kernel_rfl) (by simp) ?_
      refine AllReadyH.cons rfl (fun K hK => ?_) (AllReadyH.nil)
      go_simp
      refine hK.out _ _ (HS1.out _ (below_s4 B2.out (Nat.le_refl _) _ _ _ _)) (fun hHeld => ?_)
      clear hK K
      try simp only [Act.put, List.setIfInBounds_toArray, List.set_cons_zero, List.set_cons_succ]
      refine wpAnyH_take (i := 17) (oi := { dst := some 6, op := Op.assign (Operand.tmp 40), type := 27, pos := "acceptor.go:40", after := #[{ on := 14, ground := Ground.data }, { on := 16, ground := Ground.chain }, { on := 0, ground := Ground.phase }, { on := 1, ground := Ground.phase }, { on := 2, ground := Ground.phase }, { on := 3, ground := Ground.phase }, { on := 4, ground := Ground.phase }, { on := 5, ground := Ground.phase }, { on := 6, ground := Ground.phase }, { on := 7, ground := Ground.phase }, { on := 8, ground := Ground.phase }, { on := 9, ground := Ground.phase }, { on := 10, ground := Ground.phase }, { on := 11, ground := Ground.phase }, { on := 12, ground := Ground.phase }, { on := 13, ground := Ground.phase }, { on := 14, ground := Ground.phase }, { on := 15, ground := Ground.phase }, { on := 16, ground := Ground.phase }], guard := none }) (v := ?_) rfl (by kernel_rfl) (by kernel_rfl) (by kernel_rfl) (fun _ _ _ h => h) (Or.inl ⟨by rfl, ?_⟩) hHeld ?_
      rotate_left
      · intro w hSw; (try dsimp only at hSw); go_simp; try with_reducible rfl
      try simp only [Act.put, List.setIfInBounds_toArray, List.set_cons_zero, List.set_cons_succ]
      refine wpAnyH_done (by kernel_rfl) ?_ _
      go_wp2_with fail
      go_meet
      exact ⟨rfl, _, rfl, hid ⟨MU.out.later (below_s4 B2.out (Nat.le_refl _) _ _ _ _), blk_s4 N2.out _ _ _ _⟩⟩
  case rest =>
    obtain ⟨rfl, Gb, rfl, MM⟩ := hcut
    clear HS HS1 HZR HRZ HR1 hix HRU KU MU MD KP HLK HB2
    have p0 := MM.out.1.b2.cell 0
    have p1 := MM.out.1.b2.cell 1
    simp only [List.getElem?_toArray, List.getElem?_cons_zero, List.getElem?_cons_succ] at p0 p1
    obtain ⟨⟨q0, q1, q2, q3⟩, -⟩ := blk4 MM.out.2
    have HK3 := HKP.out wc (HN.out.later MM.out.1.below)
    go_upto_region 13 with (go_at_call 63; refine HK3.mono ?_; rintro x w3 ⟨rfl, hmv⟩; have T3 : Hid (Tails w F B s' kn' U.heap.size #[.int .i64 (g : Int), .int .i64 (u : Int)] w3) := hid (MM.out.1.kept HLT.out hmv); clear hmv HK3)
    clear MM HKP HN p0 p1 q0 q1 q2 q3
    obtain ⟨⟨F3, hu3, -⟩, -⟩ := T3.out.moved
    obtain ⟨S3, D3, M3, FD3, G3, X3, Y3, fx3, fy3, f3, A3, hap3⟩ := hu3
    obtain ⟨⟨mp, mb, ms, mv⟩, hmk⟩ : ∃ k0, knAt kn' g u = k0 := ⟨_, rfl⟩
    have hok3 := hap3.kmap.okAt g u
    rw [hmk] at hok3
    have HMK : Hid (knAt kn' g u = ⟨mp, mb, ms, mv⟩) := hmk
    have HM0 : Hid ((⟨mp, mb, ms, mv⟩ : Kn).ok) := hok3
    have HL3 : Hid (∀ W, Below w3.heap.size w3 W → (Instr.lookup 68 (.map (some M3)) (.agg #[.int .i64 (g : Int), .int .i64 (u : Int)]) false).run Tryz.prog W = .ok (.agg #[.int .i64 (mp : Int), .int .i64 (mb : Int), .bool ms, .string (bstr mv)]) W ∧ W.cell? ⟨B, 2, none⟩ = some (.map (some M3)) ∧ W.cell? ⟨U.heap.size, 0, none⟩ = some (.int .i64 (g : Int)) ∧ W.cell? ⟨U.heap.size, 1, none⟩ = some (.int .i64 (u : Int))) := hid (fun W hW => ⟨by
      have q := (hap3.kmap.keep (hW.block M3 (hap3.lt M3 hap3.mM))).look hgl hul
      rw [hmk] at q
      exact q, (hap3.box.later hW).cell 2, (T3.out.b2.later hW).cell 0, (T3.out.b2.later hW).cell 1⟩)
    have HA3 : Hid (∀ W, Calls Tryz.prog 64 #[.agg #[.int .i64 (mp : Int), .int .i64 (mb : Int), .bool ms, .string (bstr mv)], .int .i64 (u : Int)] W fun x w' => ∃ q : Part, x = .returned (.agg #[.int .i64 0, .int .i64 (u : Int), .int .i64 (mp : Int), .int .i64 (mb : Int), .bool ms, .slice q.ad q.len q.cap]) ∧ Hid (q.l = mv ∧ q.ok w' ∧ q.len ≤ 4000) ∧ Below W.heap.size W w') := hid (fun W => (answer_any ⟨mp, mb, ms, mv⟩ hok3 (u : Int) W).mono fun x w' hx => by
      obtain ⟨q, rfl, e1, l1, b1⟩ := hx
      exact ⟨q, rfl, hid ⟨e1.out.1, e1.out.2, l1⟩, b1⟩)
    clear hap3 hmk hok3
    have HTE : Hid (∀ (W : World) (q : Part), (q.l = mv ∧ q.ok W ∧ q.len ≤ 4000) → Calls Tryz.prog 60 #[.agg #[.int .i64 (e : Int), .int .i64 (u : Int), .int .i64 (mp : Int), .int .i64 (mb : Int), .bool ms, .slice q.ad q.len q.cap]] W fun x w' => ∃ r : Part, x = .returned (.slice r.ad r.len r.cap) ∧ Hid (r.l = frameBs 4 (ansN e u mp mb ms.toNat mv) ∧ r.ok w' ∧ r.len ≤ r.cap) ∧ Below W.heap.size W w') := hid (fun W q hq => tell_ok e u mp mb ms q.ad q.len q.cap mv W he hul HM0.out.p HM0.out.b hq.2.2 (by have := hq.2.1; rw [← hq.1]; exact this))
    generalize bstr mv = mstr at *
    have BD : Hid (Below w3.heap.size w3 w3.drew) := hid ((Below.refl _ _).drew)
    have BA : Hid (Below w3.heap.size w3 (w3.alloc (.cells #[.int .i64 0, .int .i64 0, .int .i64 0, .int .i64 0, .bool false, .slice none 0 0] 36)).drew) := hid (((Below.refl _ _).alloc (Nat.le_refl _) _).drew)
    have NA : Hid (Blk (w3.alloc (.cells #[.int .i64 0, .int .i64 0, .int .i64 0, .int .i64 0, .bool false, .slice none 0 0] 36)).drew w3.heap.size #[.int .i64 0, .int .i64 0, .int .i64 0, .int .i64 0, .bool false, .slice none 0 0] 36) := hid (blk_below (N := w3.heap.size + 1) (blk_new _ w3 _) ((Below.refl _ _).drew) (by omega))
    go_cut [9] (fun x9 wx => ∃ (Gc : Nat) (q : Part), x9 = .pointer (some ⟨Gc, 0, none⟩) ∧ Hid (Blk wx Gc #[.int .i64 0, .int .i64 (u : Int), .int .i64 (mp : Int), .int .i64 (mb : Int), .bool ms, .slice q.ad q.len q.cap] 36 ∧ (q.l = mv ∧ q.ok wx ∧ q.len ≤ 4000) ∧ Below w3.heap.size w3 wx ∧ w3.heap.size ≤ Gc))
    case first =>
      refine wp_region_held_drew (S := fun W => (Instr.lookup 68 (.map (some M3)) (.agg #[.int .i64 (g : Int), .int .i64 (u : Int)]) false).run Tryz.prog W = .ok (.agg #[.int .i64 (mp : Int), .int .i64 (mb : Int), .bool ms, .string mstr]) W ∧ W.cell? ⟨B, 2, none⟩ = some (.map (some M3)) ∧ W.cell? ⟨U.heap.size, 0, none⟩ = some (.int .i64 (g : Int)) ∧ W.cell? ⟨U.heap.size, 1, none⟩ = some (.int .i64 (u : Int))) (by kernel_rfl) (HL3.out _ BD.out) (fun hHeld => ?_)
      refine wpAnyH_take (i := 0) (oi := { dst := some 51, op := Op.move (Operand.tmp 0), type := 54, pos := "acceptor.go:48", after := #[], guard := none }) (v := ?_) rfl (by kernel_rfl) (by kernel_rfl) (by kernel_rfl) (fun _ _ _ h => h) (Or.inl ⟨by rfl, ?_⟩) hHeld ?_
      rotate_left
      · intro w hSw; (try dsimp only at hSw); go_simp; try with_reducible rfl
      try simp only [Act.put, List.setIfInBounds_toArray, List.set_cons_zero, List.set_cons_succ]
      refine wpAnyH_take (i := 1) (oi := { dst := some 52, op := Op.nilCheck (Operand.tmp 51), type := 0, pos := "acceptor.go:48", after := #[{ on := 0, ground := Ground.data }], guard := none }) (v := ?_) rfl (by kernel_rfl) (by kernel_rfl) (by kernel_rfl) (fun _ _ _ h => h) (Or.inl ⟨by rfl, ?_⟩) hHeld ?_
      rotate_left
      · intro w hSw; (try dsimp only at hSw); go_simp; try with_reducible rfl
      try simp only [Act.put, List.setIfInBounds_toArray, List.set_cons_zero, List.set_cons_succ]
      refine wpAnyH_take (i := 2) (oi := { dst := some 53, op := Op.fieldAddr 70 (Operand.tmp 52) 2, type := 0, pos := "acceptor.go:48", after := #[{ on := 1, ground := Ground.data }], guard := none }) (v := ?_) rfl (by kernel_rfl) (by kernel_rfl) (by kernel_rfl) (fun _ _ _ h => h) (Or.inl ⟨by rfl, ?_⟩) hHeld ?_
      rotate_left
      · intro w hSw; (try dsimp only at hSw); go_simp; try with_reducible rfl
      try simp only [Act.put, List.setIfInBounds_toArray, List.set_cons_zero, List.set_cons_succ]
      refine wpAnyH_take (i := 3) (oi := { dst := some 54, op := Op.load 68 (Operand.tmp 53), type := 68, pos := "acceptor.go:48", after := #[{ on := 2, ground := Ground.data }], guard := none }) (v := ?_) rfl (by kernel_rfl) (by kernel_rfl) (by kernel_rfl) (fun _ _ _ h => h) (Or.inl ⟨by rfl, ?_⟩) hHeld ?_
      rotate_left
      · intro w hSw; (try dsimp only at hSw); go_simp; try with_reducible rfl
      try simp only [Act.put, List.setIfInBounds_toArray, List.set_cons_zero, List.set_cons_succ]
      refine wpAnyH_take (i := 4) (oi := { dst := some 55, op := Op.load 110 (Operand.tmp 7), type := 110, pos := "acceptor.go:48", after := #[], guard := none }) (v := ?_) rfl (by kernel_rfl) (by kernel_rfl) (by kernel_rfl) (fun _ _ _ h => h) (Or.inl ⟨by rfl, ?_⟩) hHeld ?_
      rotate_left
      · intro w hSw; (try dsimp only at hSw); go_simp; try with_reducible rfl
      try simp only [Act.put, List.setIfInBounds_toArray, List.set_cons_zero, List.set_cons_succ]
      refine wpAnyH_take (i := 5) (oi := { dst := some 56, op := Op.lookup 68 (Operand.tmp 54) (Operand.tmp 55) false, type := 113, pos := "acceptor.go:48", after := #[{ on := 3, ground := Ground.data }, { on := 4, ground := Ground.data }], guard := none }) (v := ?_) rfl (by kernel_rfl) (by kernel_rfl) (by kernel_rfl) (fun _ _ _ h => h) (Or.inl ⟨by rfl, ?_⟩) hHeld ?_
      rotate_left
      · intro w hSw; (try dsimp only at hSw); go_simp; try with_reducible rfl
      try simp only [Act.put, List.setIfInBounds_toArray, List.set_cons_zero, List.set_cons_succ]
      refine wpAnyH_take (i := 6) (oi := { dst := some 57, op := Op.fieldAddr 110 (Operand.tmp 7) 1, type := 0, pos := "acceptor.go:48", after := #[], guard := none }) (v := ?_) rfl (by kernel_rfl) (by kernel_rfl) (by kernel_rfl) (fun _ _ _ h => h) (Or.inl ⟨by rfl, ?_⟩) hHeld ?_
      rotate_left
      · intro w hSw; (try dsimp only at hSw); go_simp; try with_reducible rfl
      try simp only [Act.put, List.setIfInBounds_toArray, List.set_cons_zero, List.set_cons_succ]
      refine wpAnyH_take (i := 7) (oi := { dst := some 58, op := Op.load 3 (Operand.tmp 57), type := 3, pos := "acceptor.go:48", after := #[{ on := 6, ground := Ground.data }], guard := none }) (v := ?_) rfl (by kernel_rfl) (by kernel_rfl) (by kernel_rfl) (fun _ _ _ h => h) (Or.inl ⟨by rfl, ?_⟩) hHeld ?_
      rotate_left
      · intro w hSw; (try dsimp only at hSw); go_simp; try with_reducible rfl
      try simp only [Act.put, List.setIfInBounds_toArray, List.set_cons_zero, List.set_cons_succ]
      refine wpAnyH_ready (rs := [8, 9]) (by kernel_rfl) (by simp) ?_
      refine AllReadyH.cons rfl (fun K hK => ?_) (AllReadyH.cons rfl (fun K hK => ?_) (AllReadyH.nil))
      · skip
        go_simp
        go_wp2_with (go_at_call 64; (with_reducible_and_instances (refine (HA3.out w3.drew).mono ?_)); rintro x w4 ⟨q4, rfl, Q4, b4⟩; have B4 : Hid (Below w3.heap.size w3 w4) := hid (BD.out.trans (b4.mono BD.out.size)); clear b4)
        refine hK.out _ _ (HL3.out _ (B4.out)) (fun hHeld => ?_)
        clear hK K
        try simp only [Act.put, List.setIfInBounds_toArray, List.set_cons_zero, List.set_cons_succ]
        refine wpAnyH_ready (rs := [9]) (by kernel_rfl) (by simp) ?_
        refine AllReadyH.cons rfl (fun K hK => ?_) (AllReadyH.nil)
        go_simp
        refine hK.out _ _ (HL3.out _ (B4.out.alloc B4.out.size _)) (fun hHeld => ?_)
        clear hK K
        try simp only [Act.put, List.setIfInBounds_toArray, List.set_cons_zero, List.set_cons_succ]
        refine wpAnyH_ready (rs := [10]) (by kernel_rfl) (by simp) ?_
        refine AllReadyH.cons rfl (fun K hK => ?_) (AllReadyH.nil)
        go_simp
        refine hK.out _ _ (HL3.out _ (B4.out.alloc B4.out.size _)) (fun hHeld => ?_)
        clear hK K
        try simp only [Act.put, List.setIfInBounds_toArray, List.set_cons_zero, List.set_cons_succ]
        refine wpAnyH_done (by kernel_rfl) ?_ _
        go_wp2_with fail
        go_meet
        exact ⟨_, q4, rfl, hid ⟨blk_new _ _ _, ⟨Q4.out.1, Q4.out.2.1.later ((Below.refl _ _).alloc (Nat.le_refl _) _), Q4.out.2.2⟩, B4.out.alloc B4.out.size _, B4.out.size⟩⟩
      · skip
        go_simp
        refine hK.out _ _ (HL3.out _ (BA.out)) (fun hHeld => ?_)
        clear hK K
        try simp only [Act.put, List.setIfInBounds_toArray, List.set_cons_zero, List.set_cons_succ]
        refine wpAnyH_ready (rs := [8]) (by kernel_rfl) (by simp) ?_
        refine AllReadyH.cons rfl (fun K hK => ?_) (AllReadyH.nil)
        go_simp
        go_wp2_with (go_at_call 64; (with_reducible_and_instances (refine (HA3.out (w3.alloc (.cells #[.int .i64 0, .int .i64 0, .int .i64 0, .int .i64 0, .bool false, .slice none 0 0] 36)).drew).mono ?_)); rintro x w4 ⟨q4, rfl, Q4, b4⟩; have B4 : Hid (Below w3.heap.size w3 w4) := hid (BA.out.trans (b4.mono BA.out.size)); have N4 : Hid (Blk w4 w3.heap.size #[.int .i64 0, .int .i64 0, .int .i64 0, .int .i64 0, .bool false, .slice none 0 0] 36) := hid (NA.out.later b4); obtain ⟨⟨c0, c1, c2, c3, c4, c5⟩, f0, f1, f2, f3, f4, f5⟩ := blk6 N4.out; clear b4)
        refine hK.out _ _ (HL3.out _ (B4.out)) (fun hHeld => ?_)
        clear hK K
        try simp only [Act.put, List.setIfInBounds_toArray, List.set_cons_zero, List.set_cons_succ]
        refine wpAnyH_ready (rs := [10]) (by kernel_rfl) (by simp) ?_
        refine AllReadyH.cons rfl (fun K hK => ?_) (AllReadyH.nil)
        go_simp
        refine hK.out _ _ (HL3.out _ (below_s6 B4.out (Nat.le_refl _) _ _ _ _ _ _)) (fun hHeld => ?_)
        clear hK K
        try simp only [Act.put, List.setIfInBounds_toArray, List.set_cons_zero, List.set_cons_succ]
        refine wpAnyH_done (by kernel_rfl) ?_ _
        go_wp2_with fail
        go_meet
        exact ⟨_, q4, rfl, hid ⟨blk_set6 N4.out _ _ _ _ _ _, ⟨Q4.out.1, part_setE6 N4.out Q4.out.2.1, Q4.out.2.2⟩, set6_below B4.out (Nat.le_refl _) _ _ _ _ _ _, Nat.le_refl _⟩⟩
    case rest =>
      obtain ⟨Gc, q, rfl, NN⟩ := hcut
      obtain ⟨⟨c0, -⟩, f0, -⟩ := blk6 NN.out.1
      have N5 : Hid (Blk (wc.setCell ⟨Gc, 0, none⟩ (.int .i64 (e : Int))) Gc #[.int .i64 (e : Int), .int .i64 (u : Int), .int .i64 (mp : Int), .int .i64 (mb : Int), .bool ms, .slice q.ad q.len q.cap] 36) := hid (NN.out.1.set 0 _)
      obtain ⟨⟨d0, d1, d2, d3, d4, d5⟩, -⟩ := blk6 N5.out
      have Q5 : Hid (q.l = mv ∧ q.ok (wc.setCell ⟨Gc, 0, none⟩ (.int .i64 (e : Int))) ∧ q.len ≤ 4000) := hid ⟨NN.out.2.1.1, part_setE NN.out.1 NN.out.2.1.2.1, NN.out.2.1.2.2⟩
      have B5 : Hid (Below w3.heap.size w3 (wc.setCell ⟨Gc, 0, none⟩ (.int .i64 (e : Int)))) := hid (NN.out.2.2.1.setCell (p := ⟨Gc, 0, none⟩) NN.out.2.2.2 _)
      have HE5 := HTE.out _ q Q5.out
      go_wp2_with (go_at_call 60; (with_reducible_and_instances (refine HE5.mono ?_)); rintro x w6 ⟨r, rfl, R6, b6⟩; have B6 : Hid (Below w3.heap.size w3 w6) := hid (B5.out.trans (b6.mono B5.out.size)); clear b6)
      go_ret
      exact ⟨r, rfl, by rw [HMK.out]; exact R6.out.1, R6.out.2.1, R6.out.2.2, (T3.out.later B6.out).moved⟩
end Go.Proofs.YtmiibakbcogolaaGreat.Ac
namespace Go.Proofs.YtmiibakbcogolaaGreat.Ac
open Go.RowKit Go.Shelf Crcm
variable {w w' W : World} {F : List Nat} {B : Nat} {s : SSt} {kn : Nat → Nat → Option Kn}

set_option maxRecDepth 100000 in
set_option maxHeartbeats 8000000 in
theorem ask_1s (h : AUp w F B s kn) (ad : Option Addr) (len cap : Nat) (l : List Nat) (hp : Part.ok w ⟨ad, len, cap, l⟩) (hlc : len ≤ cap) (hm : len ≤ 1000000000000000) (hu : unpackN l 3 19 = true) (hin : askIn (bodyAt l 0) = true) (hk : askK (bodyAt l 0) = 1)
    (u : Nat) (hul : u < 281474976710656) (k' : Kn) (e : Nat) (he : e ≤ 255) (he8 : e ≠ 8) 
    (habout : ∀ (W : World) (ga o n c : Nat), Below w.heap.size w W → Calls Tryz.prog 61 #[.pointer (some ⟨B, 0, none⟩), askV 1 (askG (bodyAt l 0) : Nat) (askW (bodyAt l 0) : Nat) (askB (bodyAt l 0) : Nat) (some ⟨ga, o, none⟩) n c] W fun x w' => x = .returned (.agg #[.int .i64 (askG (bodyAt l 0) : Nat), .int .i64 (u : Int)]) ∧ Below W.heap.size W w')
    (hrule : ∀ (W : World) (ga o n c : Nat), Part.ok W ⟨some ⟨ga, o, none⟩, n, c, (bodyAt l 0).drop 19⟩ → Calls Tryz.prog 92 #[knV (knAt kn (askG (bodyAt l 0)) u), askV 1 (askG (bodyAt l 0) : Nat) (askW (bodyAt l 0) : Nat) (askB (bodyAt l 0) : Nat) (some ⟨ga, o, none⟩) n c] W fun x w' => x = .returned (.tuple #[knV k', .int .i64 (e : Int)]) ∧ Below W.heap.size W w')
    (he0 : e ≠ 0) :
    Calls Tryz.prog 29 #[.pointer (some ⟨B, 0, none⟩), .slice ad len cap] w (APost F B s kn (frameBs 4 (ansN e u (knAt kn (askG (bodyAt l 0)) u).p (knAt kn (askG (bodyAt l 0)) u).b (knAt kn (askG (bodyAt l 0)) u).s.toNat (knAt kn (askG (bodyAt l 0)) u).v)) w) := by
  have hgl : askG (bodyAt l 0) < 281474976710656 := by
    unfold askIn at hin
    exact (askMay_lim hin).2.1
  have HG0 := getAsk_yes ad len cap l w hp hlc hm hu hin
  rw [hk] at HG0
  obtain ⟨g, hg0⟩ : ∃ g, g = askG (bodyAt l 0) := ⟨_, rfl⟩
  obtain ⟨v, hv0⟩ : ∃ v, v = askW (bodyAt l 0) := ⟨_, rfl⟩
  obtain ⟨b, hb0⟩ : ∃ b, b = askB (bodyAt l 0) := ⟨_, rfl⟩
  rw [← hg0, ← hv0, ← hb0] at HG0 habout hrule
  rw [← hg0] at hgl ⊢
  skip
  clear hg0 hv0 hb0 hu hin hk hp hlc hm
  obtain ⟨S, D, M, FD, G, X, Y, fx, fy, f, A, hap⟩ := h
  have HU := up_up hap.box
  have h : AUp w F B s kn := ⟨S, D, M, FD, G, X, Y, fx, fy, f, A, hap⟩
  have HN : Hid (AUp w F B s kn) := h
  have HLT : Hid (∀ g ∈ F, g < w.heap.size) := hid h.lt
  have HLK : Hid (∀ W, Below w.heap.size w W → (Instr.lookup 68 (.map (some M)) (.agg #[.int .i64 (g : Int), .int .i64 (u : Int)]) false).run Tryz.prog W = .ok (knV (knAt kn g u)) W) := hid (fun W hW => (hap.kmap.keep (hW.block M (hap.lt M hap.mM))).look hgl hul)
  have HB2 : Hid (∀ W, Below w.heap.size w W → W.cell? ⟨B, 2, none⟩ = some (.map (some M))) := hid (fun W hW => (h.lt B hap.mB |> fun _ => (blk_below hap.box hW (h.lt B hap.mB)).cell 2))
  have HAB : Hid (∀ (W : World) (ga o n c : Nat), Below w.heap.size w W → Calls Tryz.prog 61 #[.pointer (some ⟨B, 0, none⟩), .agg #[.int .i64 1, .int .i64 (g : Int), .int .i64 (v : Int), .int .i64 (b : Int), .slice (some ⟨ga, o, none⟩) n c]] W fun x w' => x = .returned (.agg #[.int .i64 (g : Int), .int .i64 (u : Int)]) ∧ Below W.heap.size W w') := habout
  obtain ⟨⟨kp, kb, ks, kv⟩, hkk⟩ : ∃ k0, knAt kn g u = k0 := ⟨_, rfl⟩
  obtain ⟨qp, qb, qs, qv⟩ := k'
  rw [hkk] at hrule HLK
  unfold knV at hrule HLK
  unfold askV at hrule HG0
  simp only at hrule HLK
  have HG := HG0
  -- behind keep
  have HKM : Hid ((knAt kn g u).ok ∨ True) := hid (Or.inr trivial)
  clear HKM
  have HRU : Hid (∀ (W : World) (ga o n c : Nat), Part.ok W ⟨some ⟨ga, o, none⟩, n, c, (bodyAt l 0).drop 19⟩ → Calls Tryz.prog 92 #[.agg #[.int .i64 (kp : Int), .int .i64 (kb : Int), .bool ks, .string (bstr kv)], .agg #[.int .i64 1, .int .i64 (g : Int), .int .i64 (v : Int), .int .i64 (b : Int), .slice (some ⟨ga, o, none⟩) n c]] W fun x w' => x = .returned (.tuple #[.agg #[.int .i64 (qp : Int), .int .i64 (qb : Int), .bool qs, .string (bstr qv)], .int .i64 (e : Int)]) ∧ Below W.heap.size W w') := hrule
  have he0' : ((e : Int) == 0) = false := by simp; omega
  clear habout hrule HG0 hkk h hap
  generalize bstr kv = kstr at *
  generalize bstr qv = qstr at *
  have he8' : ((e : Int) == 8) = false := by simp; omega
  go_enter Tryz.func29, Tryz.ntmps29
  go_upto_region 7 with (first
    | (go_at_call 31; refine HU.mono ?_; rintro x w' ⟨rfl, hw'⟩; obtain rfl := hw'.symm)
    | (go_at_call 15; refine HG.mono ?_; rintro x V ⟨ga, o, n, c, rfl, KP, hb⟩; have BV : Hid (Below w.heap.size w V) := hb; have BV1 : Hid (Below w.heap.size w (V.alloc (.cells #[.int .i64 1, .int .i64 (g : Int), .int .i64 (v : Int), .int .i64 (b : Int), .slice (some ⟨ga, o, none⟩) n c] 30))) := hid (hb.alloc hb.size _); clear hb HG HU)
    | (go_at_call 61; (with_reducible_and_instances (refine (HAB.out (V.alloc (.cells #[.int .i64 1, .int .i64 (g : Int), .int .i64 (v : Int), .int .i64 (b : Int), .slice (some ⟨ga, o, none⟩) n c] 30)) ga o n c BV1.out).mono ?_)); rintro x U ⟨rfl, hb⟩; have KU : Hid (Part.ok (U.alloc (.cells #[.int .i64 (g : Int), .int .i64 (u : Int)] 110)) ⟨some ⟨ga, o, none⟩, n, c, (bodyAt l 0).drop 19⟩) := hid (((KP.out.later ((Below.refl _ _).alloc (Nat.le_refl _) _)).later hb).later ((Below.refl _ _).alloc (Nat.le_refl _) _)); have MU : Hid (Mids w V.heap.size U.heap.size #[.int .i64 1, .int .i64 (g : Int), .int .i64 (v : Int), .int .i64 (b : Int), .slice (some ⟨ga, o, none⟩) n c] #[.int .i64 (g : Int), .int .i64 (u : Int)] (U.alloc (.cells #[.int .i64 (g : Int), .int .i64 (u : Int)] 110))) := hid ⟨(BV1.out.trans (hb.mono BV1.out.size)).alloc (Nat.le_trans BV1.out.size hb.size) _, (blk_new _ V _ |> fun q => (q.later hb).later ((Below.refl _ _).alloc (Nat.le_refl _) _)), blk_new _ _ _, BV.out.size, Nat.le_trans BV1.out.size hb.size⟩; clear hb HAB))
  obtain ⟨W1, hW1⟩ : ∃ W1, U.alloc (.cells #[.int .i64 (g : Int), .int .i64 (u : Int)] 110) = W1 := ⟨_, rfl⟩
  rw [hW1] at KU MU ⊢
  clear hW1
  have MD : Hid (Mids w V.heap.size U.heap.size #[.int .i64 1, .int .i64 (g : Int), .int .i64 (v : Int), .int .i64 (b : Int), .slice (some ⟨ga, o, none⟩) n c] #[.int .i64 (g : Int), .int .i64 (u : Int)] W1.drew) := hid (MU.out.later (Below.refl _ _).drew)
  have HS : Hid (∀ W, Mids w V.heap.size U.heap.size #[.int .i64 1, .int .i64 (g : Int), .int .i64 (v : Int), .int .i64 (b : Int), .slice (some ⟨ga, o, none⟩) n c] #[.int .i64 (g : Int), .int .i64 (u : Int)] W → (W.cell? ⟨B, 2, none⟩ = some (.map (some M)) ∧ W.cell? ⟨V.heap.size, 0, none⟩ = some (.int .i64 1) ∧ W.cell? ⟨V.heap.size, 1, none⟩ = some (.int .i64 (g : Int)) ∧ W.cell? ⟨V.heap.size, 2, none⟩ = some (.int .i64 (v : Int)) ∧ W.cell? ⟨V.heap.size, 3, none⟩ = some (.int .i64 (b : Int)) ∧ W.cell? ⟨V.heap.size, 4, none⟩ = some (.slice (some ⟨ga, o, none⟩) n c) ∧ W.cell? ⟨U.heap.size, 0, none⟩ = some (.int .i64 (g : Int)) ∧ W.cell? ⟨U.heap.size, 1, none⟩ = some (.int .i64 (u : Int))) ∧ (Instr.lookup 68 (.map (some M)) (.agg #[.int .i64 (g : Int), .int .i64 (u : Int)]) false).run Tryz.prog W = .ok (.agg #[.int .i64 (kp : Int), .int .i64 (kb : Int), .bool ks, .string kstr]) W) := hid (fun W hW => ⟨⟨HB2.out W hW.below, hW.b1.cell 0, hW.b1.cell 1, hW.b1.cell 2, hW.b1.cell 3, hW.b1.cell 4, hW.b2.cell 0, hW.b2.cell 1⟩, HLK.out W hW.below⟩)
  have HS1 : Hid (∀ W, Below W1.heap.size W1 W → (W.cell? ⟨B, 2, none⟩ = some (.map (some M)) ∧ W.cell? ⟨V.heap.size, 0, none⟩ = some (.int .i64 1) ∧ W.cell? ⟨V.heap.size, 1, none⟩ = some (.int .i64 (g : Int)) ∧ W.cell? ⟨V.heap.size, 2, none⟩ = some (.int .i64 (v : Int)) ∧ W.cell? ⟨V.heap.size, 3, none⟩ = some (.int .i64 (b : Int)) ∧ W.cell? ⟨V.heap.size, 4, none⟩ = some (.slice (some ⟨ga, o, none⟩) n c) ∧ W.cell? ⟨U.heap.size, 0, none⟩ = some (.int .i64 (g : Int)) ∧ W.cell? ⟨U.heap.size, 1, none⟩ = some (.int .i64 (u : Int))) ∧ (Instr.lookup 68 (.map (some M)) (.agg #[.int .i64 (g : Int), .int .i64 (u : Int)]) false).run Tryz.prog W = .ok (.agg #[.int .i64 (kp : Int), .int .i64 (kb : Int), .bool ks, .string kstr]) W) := hid (fun W hW => HS.out W (MU.out.later hW))
  have HZR : Hid (Below W1.heap.size W1 ((W1.alloc (.cells #[.int .i64 0, .int .i64 0, .bool false, .string ⟨#[]⟩] 113)).alloc (.cells #[.nilFunc, .func (.func 92) #[] #[], .func (.func 93) #[] #[], .func (.func 94) #[] #[], .func (.func 95) #[] #[]] 116)).drew ∧ Blk ((W1.alloc (.cells #[.int .i64 0, .int .i64 0, .bool false, .string ⟨#[]⟩] 113)).alloc (.cells #[.nilFunc, .func (.func 92) #[] #[], .func (.func 93) #[] #[], .func (.func 94) #[] #[], .func (.func 95) #[] #[]] 116)).drew W1.heap.size #[.int .i64 0, .int .i64 0, .bool false, .string ⟨#[]⟩] 113) := hid ⟨((((Below.refl _ W1).alloc (Nat.le_refl _) _).alloc (by simp) _)).drew, blk_below (N := W1.heap.size + 1) (blk_new _ W1 _) (((Below.refl _ _).alloc (by simp) _).drew) (by omega)⟩
  have HRZ : Hid (Below W1.heap.size W1 ((W1.alloc (.cells #[.nilFunc, .func (.func 92) #[] #[], .func (.func 93) #[] #[], .func (.func 94) #[] #[], .func (.func 95) #[] #[]] 116)).alloc (.cells #[.int .i64 0, .int .i64 0, .bool false, .string ⟨#[]⟩] 113)).drew ∧ Blk ((W1.alloc (.cells #[.nilFunc, .func (.func 92) #[] #[], .func (.func 93) #[] #[], .func (.func 94) #[] #[], .func (.func 95) #[] #[]] 116)).alloc (.cells #[.int .i64 0, .int .i64 0, .bool false, .string ⟨#[]⟩] 113)).drew (W1.heap.size + 1) #[.int .i64 0, .int .i64 0, .bool false, .string ⟨#[]⟩] 113) := hid ⟨((((Below.refl _ W1).alloc (Nat.le_refl _) _).alloc (by simp) _)).drew, blk_below (N := W1.heap.size + 2) (last2 _ _ _ _) ((Below.refl _ _).drew) (by omega)⟩
  have HR1 : Hid (Below W1.heap.size W1 (W1.alloc (.cells #[.nilFunc, .func (.func 92) #[] #[], .func (.func 93) #[] #[], .func (.func 94) #[] #[], .func (.func 95) #[] #[]] 116)).drew) := hid (((Below.refl _ W1).alloc (Nat.le_refl _) _).drew)
  have hix := fun W => (rules_at .nilFunc (.func (.func 92) #[] #[]) (.func (.func 93) #[] #[]) (.func (.func 94) #[] #[]) (.func (.func 95) #[] #[]) W).1
  go_cut [6, 8] (fun x6 x8 wx => x6 = .int .i64 (e : Int) ∧ ∃ Gb, x8 = .pointer (some ⟨Gb, 0, none⟩) ∧ Hid (Mids w V.heap.size U.heap.size #[.int .i64 1, .int .i64 (g : Int), .int .i64 (v : Int), .int .i64 (b : Int), .slice (some ⟨ga, o, none⟩) n c] #[.int .i64 (g : Int), .int .i64 (u : Int)] wx ∧ Blk wx Gb #[.int .i64 (qp : Int), .int .i64 (qb : Int), .bool qs, .string qstr] 113))
  case first =>
    refine wp_region_held_drew (S := fun W => (W.cell? ⟨B, 2, none⟩ = some (.map (some M)) ∧ W.cell? ⟨V.heap.size, 0, none⟩ = some (.int .i64 1) ∧ W.cell? ⟨V.heap.size, 1, none⟩ = some (.int .i64 (g : Int)) ∧ W.cell? ⟨V.heap.size, 2, none⟩ = some (.int .i64 (v : Int)) ∧ W.cell? ⟨V.heap.size, 3, none⟩ = some (.int .i64 (b : Int)) ∧ W.cell? ⟨V.heap.size, 4, none⟩ = some (.slice (some ⟨ga, o, none⟩) n c) ∧ W.cell? ⟨U.heap.size, 0, none⟩ = some (.int .i64 (g : Int)) ∧ W.cell? ⟨U.heap.size, 1, none⟩ = some (.int .i64 (u : Int))) ∧ (Instr.lookup 68 (.map (some M)) (.agg #[.int .i64 (g : Int), .int .i64 (u : Int)]) false).run Tryz.prog W = .ok (.agg #[.int .i64 (kp : Int), .int .i64 (kb : Int), .bool ks, .string kstr]) W) (by kernel_rfl) (HS1.out _ (Below.refl _ _).drew) (fun hHeld => ?_)
    refine wpAnyH_take (i := 1) (oi := { dst := some 28, op := Op.fieldAddr 30 (Operand.tmp 5) 0, type := 0, pos := "acceptor.go:40", after := #[], guard := none }) (v := ?_) rfl (by kernel_rfl) (by kernel_rfl) (by kernel_rfl) (fun _ _ _ h => h) (Or.inl ⟨by rfl, ?_⟩) hHeld ?_
    rotate_left
    · intro w hSw; (try dsimp only at hSw); go_simp; try with_reducible rfl
    try simp only [Act.put, List.setIfInBounds_toArray, List.set_cons_zero, List.set_cons_succ]
    refine wpAnyH_take (i := 2) (oi := { dst := some 29, op := Op.load 3 (Operand.tmp 28), type := 3, pos := "acceptor.go:40", after := #[{ on := 1, ground := Ground.data }], guard := none }) (v := ?_) rfl (by kernel_rfl) (by kernel_rfl) (by kernel_rfl) (fun _ _ _ h => h) (Or.inl ⟨by rfl, ?_⟩) hHeld ?_
    rotate_left
    · intro w hSw; (try dsimp only at hSw); go_simp; try with_reducible rfl
    try simp only [Act.put, List.setIfInBounds_toArray, List.set_cons_zero, List.set_cons_succ]
    refine wpAnyH_take (i := 4) (oi := { dst := some 31, op := Op.move (Operand.tmp 0), type := 54, pos := "acceptor.go:40", after := #[], guard := none }) (v := ?_) rfl (by kernel_rfl) (by kernel_rfl) (by kernel_rfl) (fun _ _ _ h => h) (Or.inl ⟨by rfl, ?_⟩) hHeld ?_
    rotate_left
    · intro w hSw; (try dsimp only at hSw); go_simp; try with_reducible rfl
    try simp only [Act.put, List.setIfInBounds_toArray, List.set_cons_zero, List.set_cons_succ]
    refine wpAnyH_take (i := 5) (oi := { dst := some 32, op := Op.nilCheck (Operand.tmp 31), type := 0, pos := "acceptor.go:40", after := #[{ on := 4, ground := Ground.data }], guard := none }) (v := ?_) rfl (by kernel_rfl) (by kernel_rfl) (by kernel_rfl) (fun _ _ _ h => h) (Or.inl ⟨by rfl, ?_⟩) hHeld ?_
    rotate_left
    · intro w hSw; (try dsimp only at hSw); go_simp; try with_reducible rfl
    try simp only [Act.put, List.setIfInBounds_toArray, List.set_cons_zero, List.set_cons_succ]
    refine wpAnyH_take (i := 6) (oi := { dst := some 33, op := Op.fieldAddr 70 (Operand.tmp 32) 2, type := 0, pos := "acceptor.go:40", after := #[{ on := 5, ground := Ground.data }], guard := none }) (v := ?_) rfl (by kernel_rfl) (by kernel_rfl) (by kernel_rfl) (fun _ _ _ h => h) (Or.inl ⟨by rfl, ?_⟩) hHeld ?_
    rotate_left
    · intro w hSw; (try dsimp only at hSw); go_simp; try with_reducible rfl
    try simp only [Act.put, List.setIfInBounds_toArray, List.set_cons_zero, List.set_cons_succ]
    refine wpAnyH_take (i := 7) (oi := { dst := some 34, op := Op.load 68 (Operand.tmp 33), type := 68, pos := "acceptor.go:40", after := #[{ on := 6, ground := Ground.data }], guard := none }) (v := ?_) rfl (by kernel_rfl) (by kernel_rfl) (by kernel_rfl) (fun _ _ _ h => h) (Or.inl ⟨by rfl, ?_⟩) hHeld ?_
    rotate_left
    · intro w hSw; (try dsimp only at hSw); go_simp; try with_reducible rfl
    try simp only [Act.put, List.setIfInBounds_toArray, List.set_cons_zero, List.set_cons_succ]
    refine wpAnyH_take (i := 8) (oi := { dst := some 35, op := Op.load 110 (Operand.tmp 7), type := 110, pos := "acceptor.go:40", after := #[], guard := none }) (v := ?_) rfl (by kernel_rfl) (by kernel_rfl) (by kernel_rfl) (fun _ _ _ h => h) (Or.inl ⟨by rfl, ?_⟩) hHeld ?_
    rotate_left
    · intro w hSw; (try dsimp only at hSw); go_simp; try with_reducible rfl
    try simp only [Act.put, List.setIfInBounds_toArray, List.set_cons_zero, List.set_cons_succ]
    refine wpAnyH_take (i := 9) (oi := { dst := some 36, op := Op.lookup 68 (Operand.tmp 34) (Operand.tmp 35) false, type := 113, pos := "acceptor.go:40", after := #[{ on := 7, ground := Ground.data }, { on := 8, ground := Ground.data }], guard := none }) (v := ?_) rfl (by kernel_rfl) (by kernel_rfl) (by kernel_rfl) (fun _ _ _ h => h) (Or.inl ⟨by rfl, ?_⟩) hHeld ?_
    rotate_left
    · intro w hSw; (try dsimp only at hSw); go_simp; try with_reducible rfl
    try simp only [Act.put, List.setIfInBounds_toArray, List.set_cons_zero, List.set_cons_succ]
    refine wpAnyH_take (i := 10) (oi := { dst := some 37, op := Op.load 30 (Operand.tmp 5), type := 30, pos := "acceptor.go:40", after := #[], guard := none }) (v := ?_) rfl (by kernel_rfl) (by kernel_rfl) (by kernel_rfl) (fun _ _ _ h => h) (Or.inl ⟨by rfl, ?_⟩) hHeld ?_
    rotate_left
    · intro w hSw; (try dsimp only at hSw); go_simp; try with_reducible rfl
    try simp only [Act.put, List.setIfInBounds_toArray, List.set_cons_zero, List.set_cons_succ]
    refine wpAnyH_ready (rs := [0, 15]) (by kernel_rfl) (by simp) ?_
    refine AllReadyH.cons rfl (fun K hK => ?_) (AllReadyH.cons rfl (fun K hK => ?_) (AllReadyH.nil))
    · skip
      go_simp
      go_wp2_with (go_at_call 62; refine (rules_any _).mono ?_; rintro x w' ⟨rfl, hw'⟩; obtain rfl := hw'.symm)
      refine hK.out _ _ (HS1.out _ (HR1.out)) (fun hHeld => ?_)
      clear hK K
      try simp only [Act.put, List.setIfInBounds_toArray, List.set_cons_zero, List.set_cons_succ]
      refine wpAnyH_take (i := 3) (oi := { dst := some 30, op := Op.index 116 (Operand.tmp 27) (Operand.tmp 29), type := 115, pos := "acceptor.go:40", after := #[{ on := 0, ground := Ground.data }, { on := 2, ground := Ground.data }], guard := none }) (v := ?_) rfl (by kernel_rfl) (by kernel_rfl) (by kernel_rfl) (fun _ _ _ h => h) (Or.inl ⟨by rfl, ?_⟩) hHeld ?_
      rotate_left
      · intro w hSw; (try dsimp only at hSw); go_simp; try with_reducible rfl
      try simp only [Act.put, List.setIfInBounds_toArray, List.set_cons_zero, List.set_cons_succ]
      refine wpAnyH_ready (rs := [11, 15]) (by kernel_rfl) (by simp) ?_
      refine AllReadyH.cons rfl (fun K hK => ?_) (AllReadyH.cons rfl (fun K hK => ?_) (AllReadyH.nil))
      · skip
        go_simp
        go_wp2_with (go_at_call 92; (with_reducible_and_instances (refine (HRU.out (W1.alloc (.cells #[.nilFunc, .func (.func 92) #[] #[], .func (.func 93) #[] #[], .func (.func 94) #[] #[], .func (.func 95) #[] #[]] 116)).drew ga o n c (KU.out.later HR1.out)).mono ?_)); rintro x w2 ⟨rfl, b2⟩; have B2 : Hid (Below W1.heap.size W1 w2) := hid (HR1.out.trans (b2.mono HR1.out.size)); clear b2)
        refine hK.out _ _ (HS1.out _ (B2.out)) (fun hHeld => ?_)
        clear hK K
        try simp only [Act.put, List.setIfInBounds_toArray, List.set_cons_zero, List.set_cons_succ]
        refine wpAnyH_take (i := 12) (oi := { dst := some 26, op := Op.move (Operand.tmp 38), type := 114, pos := "acceptor.go:40", after := #[{ on := 11, ground := Ground.data }], guard := none }) (v := ?_) rfl (by kernel_rfl) (by kernel_rfl) (by kernel_rfl) (fun _ _ _ h => h) (Or.inl ⟨by rfl, ?_⟩) hHeld ?_
        rotate_left
        · intro w hSw; (try dsimp only at hSw); go_simp; try with_reducible rfl
        try simp only [Act.put, List.setIfInBounds_toArray, List.set_cons_zero, List.set_cons_succ]
        refine wpAnyH_take (i := 13) (oi := { dst := some 39, op := Op.extract (Operand.tmp 26) 0, type := 113, pos := "acceptor.go:40", after := #[{ on := 12, ground := Ground.data }], guard := none }) (v := ?_) rfl (by kernel_rfl) (by kernel_rfl) (by kernel_rfl) (fun _ _ _ h => h) (Or.inl ⟨by rfl, ?_⟩) hHeld ?_
        rotate_left
        · intro w hSw; (try dsimp only at hSw); go_simp; try with_reducible rfl
        try simp only [Act.put, List.setIfInBounds_toArray, List.set_cons_zero, List.set_cons_succ]
        refine wpAnyH_take (i := 14) (oi := { dst := some 40, op := Op.extract (Operand.tmp 26) 1, type := 27, pos := "acceptor.go:40", after := #[{ on := 12, ground := Ground.data }, { on := 16, ground := Ground.gcOnly Departure.lateStores }], guard := none }) (v := ?_) rfl (by kernel_rfl) (by kernel_rfl) (by kernel_rfl) (fun _ _ _ h => h) (Or.inl ⟨by rfl, ?_⟩) hHeld ?_
        rotate_left
        · intro w hSw; (try dsimp only at hSw); go_simp; try with_reducible rfl
        try simp only [Act.put, List.setIfInBounds_toArray, List.set_cons_zero, List.set_cons_succ]
        refine wpAnyH_ready (rs := [15]) (by kernel_rfl) (by simp) ?_
        refine AllReadyH.cons rfl (fun K hK => ?_) (AllReadyH.nil)
        go_simp
        refine hK.out _ _ (HS1.out _ (B2.out.alloc B2.out.size _)) (fun hHeld => ?_)
        clear hK K
        try simp only [Act.put, List.setIfInBounds_toArray, List.set_cons_zero, List.set_cons_succ]
        refine wpAnyH_ready (rs := [16]) (by kernel_rfl) (by simp) ?_
        refine AllReadyH.cons rfl (fun K hK => ?_) (AllReadyH.nil)
        go_simp
        refine hK.out _ _ (HS1.out _ (B2.out.alloc B2.out.size _)) (fun hHeld => ?_)
        clear hK K
        try simp only [Act.put, List.setIfInBounds_toArray, List.set_cons_zero, List.set_cons_succ]
        refine wpAnyH_take (i := 17) (oi := { dst := some 6, op := Op.assign (Operand.tmp 40), type := 27, pos := "acceptor.go:40", after := #[{ on := 14, ground := Ground.data }, { on := 16, ground := Ground.chain }, { on := 0, ground := Ground.phase }, { on := 1, ground := Ground.phase }, { on := 2, ground := Ground.phase }, { on := 3, ground := Ground.phase }, { on := 4, ground := Ground.phase }, { on := 5, ground := Ground.phase }, { on := 6, ground := Ground.phase }, { on := 7, ground := Ground.phase }, { on := 8, ground := Ground.phase }, { on := 9, ground := Ground.phase }, { on := 10, ground := Ground.phase }, { on := 11, ground := Ground.phase }, { on := 12, ground := Ground.phase }, { on := 13, ground := Ground.phase }, { on := 14, ground := Ground.phase }, { on := 15, ground := Ground.phase }, { on := 16, ground := Ground.phase }], guard := none }) (v := ?_) rfl (by kernel_rfl) (by kernel_rfl) (by kernel_rfl) (fun _ _ _ h => h) (Or.inl ⟨by rfl, ?_⟩) hHeld ?_
        rotate_left
        · intro w hSw; (try dsimp only at hSw); go_simp; try with_reducible rfl
        try simp only [Act.put, List.setIfInBounds_toArray, List.set_cons_zero, List.set_cons_succ]
        refine wpAnyH_done (by kernel_rfl) ?_ _
        go_wp2_with fail
        go_meet
        exact ⟨rfl, _, rfl, hid ⟨MU.out.later (B2.out.alloc B2.out.size _), blk_new _ _ _⟩⟩
      · skip
        go_simp
        refine hK.out _ _ (HS1.out _ (HRZ.out.1)) (fun hHeld => ?_)
        clear hK K
        try simp only [Act.put, List.setIfInBounds_toArray, List.set_cons_zero, List.set_cons_succ]
        refine wpAnyH_ready (rs := [11]) (by kernel_rfl) (by simp) ?_
        refine AllReadyH.cons rfl (fun K hK => ?_) (AllReadyH.nil)
        go_simp
        go_wp2_with (go_at_call 92; (with_reducible_and_instances (refine (HRU.out ((W1.alloc (.cells #[.nilFunc, .func (.func 92) #[] #[], .func (.func 93) #[] #[], .func (.func 94) #[] #[], .func (.func 95) #[] #[]] 116)).alloc (.cells #[.int .i64 0, .int .i64 0, .bool false, .string ⟨#[]⟩] 113)).drew ga o n c (KU.out.later HRZ.out.1)).mono ?_)); rintro x w2 ⟨rfl, b2⟩; have B2 : Hid (Below W1.heap.size W1 w2) := hid (HRZ.out.1.trans (b2.mono HRZ.out.1.size)); have N2 : Hid (Blk w2 (W1.heap.size + 1) #[.int .i64 0, .int .i64 0, .bool false, .string ⟨#[]⟩] 113) := hid (HRZ.out.2.later b2); obtain ⟨⟨c0, c1, c2, c3⟩, f0, f1, f2, f3⟩ := blk4 N2.out; clear b2)
        refine hK.out _ _ (HS1.out _ (B2.out)) (fun hHeld => ?_)
        clear hK K
        try simp only [Act.put, List.setIfInBounds_toArray, List.set_cons_zero, List.set_cons_succ]
        refine wpAnyH_take (i := 12) (oi := { dst := some 26, op := Op.move (Operand.tmp 38), type := 114, pos := "acceptor.go:40", after := #[{ on := 11, ground := Ground.data }], guard := none }) (v := ?_) rfl (by kernel_rfl) (by kernel_rfl) (by kernel_rfl) (fun _ _ _ h => h) (Or.inl ⟨by rfl, ?_⟩) hHeld ?_
        rotate_left
        · intro w hSw; (try dsimp only at hSw); go_simp; try with_reducible rfl
        try simp only [Act.put, List.setIfInBounds_toArray, List.set_cons_zero, List.set_cons_succ]
        refine wpAnyH_take (i := 13) (oi := { dst := some 39, op := Op.extract (Operand.tmp 26) 0, type := 113, pos := "acceptor.go:40", after := #[{ on := 12, ground := Ground.data }], guard := none }) (v := ?_) rfl (by kernel_rfl) (by kernel_rfl) (by kernel_rfl) (fun _ _ _ h => h) (Or.inl ⟨by rfl, ?_⟩) hHeld ?_
        rotate_left
        · intro w hSw; (try dsimp only at hSw); go_simp; try with_reducible rfl
        try simp only [Act.put, List.setIfInBounds_toArray, List.set_cons_zero, List.set_cons_succ]
        refine wpAnyH_take (i := 14) (oi := { dst := some 40, op := Op.extract (Operand.tmp 26) 1, type := 27, pos := "acceptor.go:40", after := #[{ on := 12, ground := Ground.data }, { on := 16, ground := Ground.gcOnly Departure.lateStores }], guard := none }) (v := ?_) rfl (by kernel_rfl) (by kernel_rfl) (by kernel_rfl) (fun _ _ _ h => h) (Or.inl ⟨by rfl, ?_⟩) hHeld ?_
        rotate_left
        · intro w hSw; (try dsimp only at hSw); go_simp; try with_reducible rfl
        try simp only [Act.put, List.setIfInBounds_toArray, List.set_cons_zero, List.set_cons_succ]
        refine wpAnyH_ready (rs := [16]) (by kernel_rfl) (by simp) ?_
        refine AllReadyH.cons rfl (fun K hK => ?_) (AllReadyH.nil)
        go_simp
        refine hK.out _ _ (HS1.out _ (below_s4 B2.out (Nat.le_succ _) _ _ _ _)) (fun hHeld => ?_)
        clear hK K
        try simp only [Act.put, List.setIfInBounds_toArray, List.set_cons_zero, List.set_cons_succ]
        refine wpAnyH_take (i := 17) (oi := { dst := some 6, op := Op.assign (Operand.tmp 40), type := 27, pos := "acceptor.go:40", after := #[{ on := 14, ground := Ground.data }, { on := 16, ground := Ground.chain }, { on := 0, ground := Ground.phase }, { on := 1, ground := Ground.phase }, { on := 2, ground := Ground.phase }, { on := 3, ground := Ground.phase }, { on := 4, ground := Ground.phase }, { on := 5, ground := Ground.phase }, { on := 6, ground := Ground.phase }, { on := 7, ground := Ground.phase }, { on := 8, ground := Ground.phase }, { on := 9, ground := Ground.phase }, { on := 10, ground := Ground.phase }, { on := 11, ground := Ground.phase }, { on := 12, ground := Ground.phase }, { on := 13, ground := Ground.phase }, { on := 14, ground := Ground.phase }, { on := 15, ground := Ground.phase }, { on := 16, ground := Ground.phase }], guard := none }) (v := ?_) rfl (by kernel_rfl) (by kernel_rfl) (by kernel_rfl) (fun _ _ _ h => h) (Or.inl ⟨by rfl, ?_⟩) hHeld ?_
        rotate_left
        · intro w hSw; (try dsimp only at hSw); go_simp; try with_reducible rfl
        try simp only [Act.put, List.setIfInBounds_toArray, List.set_cons_zero, List.set_cons_succ]
        refine wpAnyH_done (by kernel_rfl) ?_ _
        go_wp2_with fail
        go_meet
        exact ⟨rfl, _, rfl, hid ⟨MU.out.later (below_s4 B2.out (Nat.le_succ _) _ _ _ _), blk_s4 N2.out _ _ _ _⟩⟩
    · skip
      go_simp
      refine hK.out _ _ (HS1.out _ (((Below.refl _ W1).alloc (Nat.le_refl _) _).drew)) (fun hHeld => ?_)
      clear hK K
      try simp only [Act.put, List.setIfInBounds_toArray, List.set_cons_zero, List.set_cons_succ]
      refine wpAnyH_ready (rs := [0]) (by kernel_rfl) (by simp) ?_
      refine AllReadyH.cons rfl (fun K hK => ?_) (AllReadyH.nil)
      go_simp
      go_wp2_with (go_at_call 62; refine (rules_any _).mono ?_; rintro x w' ⟨rfl, hw'⟩; obtain rfl := hw'.symm)
      refine hK.out _ _ (HS1.out _ (HZR.out.1)) (fun hHeld => ?_)
      clear hK K
      try simp only [Act.put, List.setIfInBounds_toArray, List.set_cons_zero, List.set_cons_succ]
      refine wpAnyH_take (i := 3) (oi := { dst := some 30, op := Op.index 116 (Operand.tmp 27) (Operand.tmp 29), type := 115, pos := "acceptor.go:40", after := #[{ on := 0, ground := Ground.data }, { on := 2, ground := Ground.data }], guard := none }) (v := ?_) rfl (by kernel_rfl) (by kernel_rfl) (by kernel_rfl) (fun _ _ _ h => h) (Or.inl ⟨by rfl, ?_⟩) hHeld ?_
      rotate_left
      · intro w hSw; (try dsimp only at hSw); go_simp; try with_reducible rfl
      try simp only [Act.put, List.setIfInBounds_toArray, List.set_cons_zero, List.set_cons_succ]
      refine wpAnyH_ready (rs := [11]) (by kernel_rfl) (by simp) ?_
      refine AllReadyH.cons rfl (fun K hK => ?_) (AllReadyH.nil)
      go_simp
      go_wp2_with (go_at_call 92; (with_reducible_and_instances (refine (HRU.out ((W1.alloc (.cells #[.int .i64 0, .int .i64 0, .bool false, .string ⟨#[]⟩] 113)).alloc (.cells #[.nilFunc, .func (.func 92) #[] #[], .func (.func 93) #[] #[], .func (.func 94) #[] #[], .func (.func 95) #[] #[]] 116)).drew ga o n c (KU.out.later HZR.out.1)).mono ?_)); rintro x w2 ⟨rfl, b2⟩; have B2 : Hid (Below W1.heap.size W1 w2) := hid (HZR.out.1.trans (b2.mono HZR.out.1.size)); have N2 : Hid (Blk w2 W1.heap.size #[.int .i64 0, .int .i64 0, .bool false, .string ⟨#[]⟩] 113) := hid (HZR.out.2.later b2); obtain ⟨⟨c0, c1, c2, c3⟩, f0, f1, f2, f3⟩ := blk4 N2.out; clear b2)
      refine hK.out _ _ (HS1.out _ (B2.out)) (fun hHeld => ?_)
      clear hK K
      try simp only [Act.put, List.setIfInBounds_toArray, List.set_cons_zero, List.set_cons_succ]
      refine wpAnyH_take (i := 12) (oi := { dst := some 26, op := Op.move (Operand.tmp 38), type := 114, pos := "acceptor.go:40", after := #[{ on := 11, ground := Ground.data }], guard := none }) (v := ?_) rfl (by kernel_rfl) (by kernel_rfl) (by kernel_rfl) (fun _ _ _ h => h) (Or.inl ⟨by rfl, ?_⟩) hHeld ?_
      rotate_left
      · intro w hSw; (try dsimp only at hSw); go_simp; try with_reducible rfl
      try simp only [Act.put, List.setIfInBounds_toArray, List.set_cons_zero, List.set_cons_succ]
      refine wpAnyH_take (i := 13) (oi := { dst := some 39, op := Op.extract (Operand.tmp 26) 0, type := 113, pos := "acceptor.go:40", after := #[{ on := 12, ground := Ground.data }], guard := none }) (v := ?_) rfl (by kernel_rfl) (by kernel_rfl) (by kernel_rfl) (fun _ _ _ h => h) (Or.inl ⟨by rfl, ?_⟩) hHeld ?_
      rotate_left
      · intro w hSw; (try dsimp only at hSw); go_simp; try with_reducible rfl
      try simp only [Act.put, List.setIfInBounds_toArray, List.set_cons_zero, List.set_cons_succ]
      refine wpAnyH_take (i := 14) (oi := { dst := some 40, op := Op.extract (Operand.tmp 26) 1, type := 27, pos := "acceptor.go:40", after := #[{ on := 12, ground := Ground.data }, { on := 16, ground := Ground.gcOnly Departure.lateStores }], guard := none }) (v := ?_) rfl (by kernel_rfl) (by kernel_rfl) (by kernel_rfl) (fun _ _ _ h => h) (Or.inl ⟨by rfl, ?_⟩) hHeld ?_
      rotate_left
      · intro w hSw; (try dsimp only at hSw); go_simp; try with_reducible rfl
      try simp only [Act.put, List.setIfInBounds_toArray, List.set_cons_zero, List.set_cons_succ]
      refine wpAnyH_ready (rs := [16]) (by kernel_rfl) (by simp) ?_
      refine AllReadyH.cons rfl (fun K hK => ?_) (AllReadyH.nil)
      go_simp
      refine hK.out _ _ (HS1.out _ (below_s4 B2.out (Nat.le_refl _) _ _ _ _)) (fun hHeld => ?_)
      clear hK K
      try simp only [Act.put, List.setIfInBounds_toArray, List.set_cons_zero, List.set_cons_succ]
      refine wpAnyH_take (i := 17) (oi := { dst := some 6, op := Op.assign (Operand.tmp 40), type := 27, pos := "acceptor.go:40", after := #[{ on := 14, ground := Ground.data }, { on := 16, ground := Ground.chain }, { on := 0, ground := Ground.phase }, { on := 1, ground := Ground.phase }, { on := 2, ground := Ground.phase }, { on := 3, ground := Ground.phase }, { on := 4, ground := Ground.phase }, { on := 5, ground := Ground.phase }, { on := 6, ground := Ground.phase }, { on := 7, ground := Ground.phase }, { on := 8, ground := Ground.phase }, { on := 9, ground := Ground.phase }, { on := 10, ground := Ground.phase }, { on := 11, ground := Ground.phase }, { on := 12, ground := Ground.phase }, { on := 13, ground := Ground.phase }, { on := 14, ground := Ground.phase }, { on := 15, ground := Ground.phase }, { on := 16, ground := Ground.phase }], guard := none }) (v := ?_) rfl (by kernel_rfl) (by kernel_rfl) (by kernel_rfl) (fun _ _ _ h => h) (Or.inl ⟨by rfl, ?_⟩) hHeld ?_
      rotate_left
      · intro w hSw; (try dsimp only at hSw); go_simp; try with_reducible rfl
      try simp only [Act.put, List.setIfInBounds_toArray, List.set_cons_zero, List.set_cons_succ]
      refine wpAnyH_done (by kernel_rfl) ?_ _
      go_wp2_with fail
      go_meet
      exact ⟨rfl, _, rfl, hid ⟨MU.out.later (below_s4 B2.out (Nat.le_refl _) _ _ _ _), blk_s4 N2.out _ _ _ _⟩⟩
  case rest =>
    obtain ⟨rfl, Gb, rfl, MM⟩ := hcut
    clear HS HS1 HZR HRZ HR1 hix HRU KU MU MD KP HLK HB2
    have p0 := MM.out.1.b2.cell 0
    have p1 := MM.out.1.b2.cell 1
    simp only [List.getElem?_toArray, List.getElem?_cons_zero, List.getElem?_cons_succ] at p0 p1
    obtain ⟨⟨q0, q1, q2, q3⟩, -⟩ := blk4 MM.out.2
    skip
    go_upto_region 13 with fail
    obtain ⟨w3, hw3⟩ : ∃ w3, wc = w3 := ⟨_, rfl⟩
    rw [hw3] at MM ⊢
    clear hw3
    have T3 : Hid (Tails w F B s kn U.heap.size #[.int .i64 (g : Int), .int .i64 (u : Int)] w3) := hid (MM.out.1.tails HN.out)
    clear MM HN p0 p1 q0 q1 q2 q3
    obtain ⟨⟨F3, hu3, -⟩, -⟩ := T3.out.moved
    obtain ⟨S3, D3, M3, FD3, G3, X3, Y3, fx3, fy3, f3, A3, hap3⟩ := hu3
    obtain ⟨⟨mp, mb, ms, mv⟩, hmk⟩ : ∃ k0, knAt kn g u = k0 := ⟨_, rfl⟩
    have hok3 := hap3.kmap.okAt g u
    rw [hmk] at hok3
    have HMK : Hid (knAt kn g u = ⟨mp, mb, ms, mv⟩) := hmk
    have HM0 : Hid ((⟨mp, mb, ms, mv⟩ : Kn).ok) := hok3
    have HL3 : Hid (∀ W, Below w3.heap.size w3 W → (Instr.lookup 68 (.map (some M3)) (.agg #[.int .i64 (g : Int), .int .i64 (u : Int)]) false).run Tryz.prog W = .ok (.agg #[.int .i64 (mp : Int), .int .i64 (mb : Int), .bool ms, .string (bstr mv)]) W ∧ W.cell? ⟨B, 2, none⟩ = some (.map (some M3)) ∧ W.cell? ⟨U.heap.size, 0, none⟩ = some (.int .i64 (g : Int)) ∧ W.cell? ⟨U.heap.size, 1, none⟩ = some (.int .i64 (u : Int))) := hid (fun W hW => ⟨by
      have q := (hap3.kmap.keep (hW.block M3 (hap3.lt M3 hap3.mM))).look hgl hul
      rw [hmk] at q
      exact q, (hap3.box.later hW).cell 2, (T3.out.b2.later hW).cell 0, (T3.out.b2.later hW).cell 1⟩)
    have HA3 : Hid (∀ W, Calls Tryz.prog 64 #[.agg #[.int .i64 (mp : Int), .int .i64 (mb : Int), .bool ms, .string (bstr mv)], .int .i64 (u : Int)] W fun x w' => ∃ q : Part, x = .returned (.agg #[.int .i64 0, .int .i64 (u : Int), .int .i64 (mp : Int), .int .i64 (mb : Int), .bool ms, .slice q.ad q.len q.cap]) ∧ Hid (q.l = mv ∧ q.ok w' ∧ q.len ≤ 4000) ∧ Below W.heap.size W w') := hid (fun W => (answer_any ⟨mp, mb, ms, mv⟩ hok3 (u : Int) W).mono fun x w' hx => by
      obtain ⟨q, rfl, e1, l1, b1⟩ := hx
      exact ⟨q, rfl, hid ⟨e1.out.1, e1.out.2, l1⟩, b1⟩)
    clear hap3 hmk hok3
    have HTE : Hid (∀ (W : World) (q : Part), (q.l = mv ∧ q.ok W ∧ q.len ≤ 4000) → Calls Tryz.prog 60 #[.agg #[.int .i64 (e : Int), .int .i64 (u : Int), .int .i64 (mp : Int), .int .i64 (mb : Int), .bool ms, .slice q.ad q.len q.cap]] W fun x w' => ∃ r : Part, x = .returned (.slice r.ad r.len r.cap) ∧ Hid (r.l = frameBs 4 (ansN e u mp mb ms.toNat mv) ∧ r.ok w' ∧ r.len ≤ r.cap) ∧ Below W.heap.size W w') := hid (fun W q hq => tell_ok e u mp mb ms q.ad q.len q.cap mv W he hul HM0.out.p HM0.out.b hq.2.2 (by have := hq.2.1; rw [← hq.1]; exact this))
    generalize bstr mv = mstr at *
    have BD : Hid (Below w3.heap.size w3 w3.drew) := hid ((Below.refl _ _).drew)
    have BA : Hid (Below w3.heap.size w3 (w3.alloc (.cells #[.int .i64 0, .int .i64 0, .int .i64 0, .int .i64 0, .bool false, .slice none 0 0] 36)).drew) := hid (((Below.refl _ _).alloc (Nat.le_refl _) _).drew)
    have NA : Hid (Blk (w3.alloc (.cells #[.int .i64 0, .int .i64 0, .int .i64 0, .int .i64 0, .bool false, .slice none 0 0] 36)).drew w3.heap.size #[.int .i64 0, .int .i64 0, .int .i64 0, .int .i64 0, .bool false, .slice none 0 0] 36) := hid (blk_below (N := w3.heap.size + 1) (blk_new _ w3 _) ((Below.refl _ _).drew) (by omega))
    go_cut [9] (fun x9 wx => ∃ (Gc : Nat) (q : Part), x9 = .pointer (some ⟨Gc, 0, none⟩) ∧ Hid (Blk wx Gc #[.int .i64 0, .int .i64 (u : Int), .int .i64 (mp : Int), .int .i64 (mb : Int), .bool ms, .slice q.ad q.len q.cap] 36 ∧ (q.l = mv ∧ q.ok wx ∧ q.len ≤ 4000) ∧ Below w3.heap.size w3 wx ∧ w3.heap.size ≤ Gc))
    case first =>
      refine wp_region_held_drew (S := fun W => (Instr.lookup 68 (.map (some M3)) (.agg #[.int .i64 (g : Int), .int .i64 (u : Int)]) false).run Tryz.prog W = .ok (.agg #[.int .i64 (mp : Int), .int .i64 (mb : Int), .bool ms, .string mstr]) W ∧ W.cell? ⟨B, 2, none⟩ = some (.map (some M3)) ∧ W.cell? ⟨U.heap.size, 0, none⟩ = some (.int .i64 (g : Int)) ∧ W.cell? ⟨U.heap.size, 1, none⟩ = some (.int .i64 (u : Int))) (by kernel_rfl) (HL3.out _ BD.out) (fun hHeld => ?_)
      refine wpAnyH_take (i := 0) (oi := { dst := some 51, op := Op.move (Operand.tmp 0), type := 54, pos := "acceptor.go:48", after := #[], guard := none }) (v := ?_) rfl (by kernel_rfl) (by kernel_rfl) (by kernel_rfl) (fun _ _ _ h => h) (Or.inl ⟨by rfl, ?_⟩) hHeld ?_
      rotate_left
      · intro w hSw; (try dsimp only at hSw); go_simp; try with_reducible rfl
      try simp only [Act.put, List.setIfInBounds_toArray, List.set_cons_zero, List.set_cons_succ]
      refine wpAnyH_take (i := 1) (oi := { dst := some 52, op := Op.nilCheck (Operand.tmp 51), type := 0, pos := "acceptor.go:48", after := #[{ on := 0, ground := Ground.data }], guard := none }) (v := ?_) rfl (by kernel_rfl) (by kernel_rfl) (by kernel_rfl) (fun _ _ _ h => h) (Or.inl ⟨by rfl, ?_⟩) hHeld ?_
      rotate_left
      · intro w hSw; (try dsimp only at hSw); go_simp; try with_reducible rfl
      try simp only [Act.put, List.setIfInBounds_toArray, List.set_cons_zero, List.set_cons_succ]
      refine wpAnyH_take (i := 2) (oi := { dst := some 53, op := Op.fieldAddr 70 (Operand.tmp 52) 2, type := 0, pos := "acceptor.go:48", after := #[{ on := 1, ground := Ground.data }], guard := none }) (v := ?_) rfl (by kernel_rfl) (by kernel_rfl) (by kernel_rfl) (fun _ _ _ h => h) (Or.inl ⟨by rfl, ?_⟩) hHeld ?_
      rotate_left
      · intro w hSw; (try dsimp only at hSw); go_simp; try with_reducible rfl
      try simp only [Act.put, List.setIfInBounds_toArray, List.set_cons_zero, List.set_cons_succ]
      refine wpAnyH_take (i := 3) (oi := { dst := some 54, op := Op.load 68 (Operand.tmp 53), type := 68, pos := "acceptor.go:48", after := #[{ on := 2, ground := Ground.data }], guard := none }) (v := ?_) rfl (by kernel_rfl) (by kernel_rfl) (by kernel_rfl) (fun _ _ _ h => h) (Or.inl ⟨by rfl, ?_⟩) hHeld ?_
      rotate_left
      · intro w hSw; (try dsimp only at hSw); go_simp; try with_reducible rfl
      try simp only [Act.put, List.setIfInBounds_toArray, List.set_cons_zero, List.set_cons_succ]
      refine wpAnyH_take (i := 4) (oi := { dst := some 55, op := Op.load 110 (Operand.tmp 7), type := 110, pos := "acceptor.go:48", after := #[], guard := none }) (v := ?_) rfl (by kernel_rfl) (by kernel_rfl) (by kernel_rfl) (fun _ _ _ h => h) (Or.inl ⟨by rfl, ?_⟩) hHeld ?_
      rotate_left
      · intro w hSw; (try dsimp only at hSw); go_simp; try with_reducible rfl
      try simp only [Act.put, List.setIfInBounds_toArray, List.set_cons_zero, List.set_cons_succ]
      refine wpAnyH_take (i := 5) (oi := { dst := some 56, op := Op.lookup 68 (Operand.tmp 54) (Operand.tmp 55) false, type := 113, pos := "acceptor.go:48", after := #[{ on := 3, ground := Ground.data }, { on := 4, ground := Ground.data }], guard := none }) (v := ?_) rfl (by kernel_rfl) (by kernel_rfl) (by kernel_rfl) (fun _ _ _ h => h) (Or.inl ⟨by rfl, ?_⟩) hHeld ?_
      rotate_left
      · intro w hSw; (try dsimp only at hSw); go_simp; try with_reducible rfl
      try simp only [Act.put, List.setIfInBounds_toArray, List.set_cons_zero, List.set_cons_succ]
      refine wpAnyH_take (i := 6) (oi := { dst := some 57, op := Op.fieldAddr 110 (Operand.tmp 7) 1, type := 0, pos := "acceptor.go:48", after := #[], guard := none }) (v := ?_) rfl (by kernel_rfl) (by kernel_rfl) (by kernel_rfl) (fun _ _ _ h => h) (Or.inl ⟨by rfl, ?_⟩) hHeld ?_
      rotate_left
      · intro w hSw; (try dsimp only at hSw); go_simp; try with_reducible rfl
      try simp only [Act.put, List.setIfInBounds_toArray, List.set_cons_zero, List.set_cons_succ]
      refine wpAnyH_take (i := 7) (oi := { dst := some 58, op := Op.load 3 (Operand.tmp 57), type := 3, pos := "acceptor.go:48", after := #[{ on := 6, ground := Ground.data }], guard := none }) (v := ?_) rfl (by kernel_rfl) (by kernel_rfl) (by kernel_rfl) (fun _ _ _ h => h) (Or.inl ⟨by rfl, ?_⟩) hHeld ?_
      rotate_left
      · intro w hSw; (try dsimp only at hSw); go_simp; try with_reducible rfl
      try simp only [Act.put, List.setIfInBounds_toArray, List.set_cons_zero, List.set_cons_succ]
      refine wpAnyH_ready (rs := [8, 9]) (by kernel_rfl) (by simp) ?_
      refine AllReadyH.cons rfl (fun K hK => ?_) (AllReadyH.cons rfl (fun K hK => ?_) (AllReadyH.nil))
      · skip
        go_simp
        go_wp2_with (go_at_call 64; (with_reducible_and_instances (refine (HA3.out w3.drew).mono ?_)); rintro x w4 ⟨q4, rfl, Q4, b4⟩; have B4 : Hid (Below w3.heap.size w3 w4) := hid (BD.out.trans (b4.mono BD.out.size)); clear b4)
        refine hK.out _ _ (HL3.out _ (B4.out)) (fun hHeld => ?_)
        clear hK K
        try simp only [Act.put, List.setIfInBounds_toArray, List.set_cons_zero, List.set_cons_succ]
        refine wpAnyH_ready (rs := [9]) (by kernel_rfl) (by simp) ?_
        refine AllReadyH.cons rfl (fun K hK => ?_) (AllReadyH.nil)
        go_simp
        refine hK.out _ _ (HL3.out _ (B4.out.alloc B4.out.size _)) (fun hHeld => ?_)
        clear hK K
        try simp only [Act.put, List.setIfInBounds_toArray, List.set_cons_zero, List.set_cons_succ]
        refine wpAnyH_ready (rs := [10]) (by kernel_rfl) (by simp) ?_
        refine AllReadyH.cons rfl (fun K hK => ?_) (AllReadyH.nil)
        go_simp
        refine hK.out _ _ (HL3.out _ (B4.out.alloc B4.out.size _)) (fun hHeld => ?_)
        clear hK K
        try simp only [Act.put, List.setIfInBounds_toArray, List.set_cons_zero, List.set_cons_succ]
        refine wpAnyH_done (by kernel_rfl) ?_ _
        go_wp2_with fail
        go_meet
        exact ⟨_, q4, rfl, hid ⟨blk_new _ _ _, ⟨Q4.out.1, Q4.out.2.1.later ((Below.refl _ _).alloc (Nat.le_refl _) _), Q4.out.2.2⟩, B4.out.alloc B4.out.size _, B4.out.size⟩⟩
      · skip
        go_simp
        refine hK.out _ _ (HL3.out _ (BA.out)) (fun hHeld => ?_)
        clear hK K
        try simp only [Act.put, List.setIfInBounds_toArray, List.set_cons_zero, List.set_cons_succ]
        refine wpAnyH_ready (rs := [8]) (by kernel_rfl) (by simp) ?_
        refine AllReadyH.cons rfl (fun K hK => ?_) (AllReadyH.nil)
        go_simp
        go_wp2_with (go_at_call 64; (with_reducible_and_instances (refine (HA3.out (w3.alloc (.cells #[.int .i64 0, .int .i64 0, .int .i64 0, .int .i64 0, .bool false, .slice none 0 0] 36)).drew).mono ?_)); rintro x w4 ⟨q4, rfl, Q4, b4⟩; have B4 : Hid (Below w3.heap.size w3 w4) := hid (BA.out.trans (b4.mono BA.out.size)); have N4 : Hid (Blk w4 w3.heap.size #[.int .i64 0, .int .i64 0, .int .i64 0, .int .i64 0, .bool false, .slice none 0 0] 36) := hid (NA.out.later b4); obtain ⟨⟨c0, c1, c2, c3, c4, c5⟩, f0, f1, f2, f3, f4, f5⟩ := blk6 N4.out; clear b4)
        refine hK.out _ _ (HL3.out _ (B4.out)) (fun hHeld => ?_)
        clear hK K
        try simp only [Act.put, List.setIfInBounds_toArray, List.set_cons_zero, List.set_cons_succ]
        refine wpAnyH_ready (rs := [10]) (by kernel_rfl) (by simp) ?_
        refine AllReadyH.cons rfl (fun K hK => ?_) (AllReadyH.nil)
        go_simp
        refine hK.out _ _ (HL3.out _ (below_s6 B4.out (Nat.le_refl _) _ _ _ _ _ _)) (fun hHeld => ?_)
        clear hK K
        try simp only [Act.put, List.setIfInBounds_toArray, List.set_cons_zero, List.set_cons_succ]
        refine wpAnyH_done (by kernel_rfl) ?_ _
        go_wp2_with fail
        go_meet
        exact ⟨_, q4, rfl, hid ⟨blk_set6 N4.out _ _ _ _ _ _, ⟨Q4.out.1, part_setE6 N4.out Q4.out.2.1, Q4.out.2.2⟩, set6_below B4.out (Nat.le_refl _) _ _ _ _ _ _, Nat.le_refl _⟩⟩
    case rest =>
      obtain ⟨Gc, q, rfl, NN⟩ := hcut
      obtain ⟨⟨c0, -⟩, f0, -⟩ := blk6 NN.out.1
      have N5 : Hid (Blk (wc.setCell ⟨Gc, 0, none⟩ (.int .i64 (e : Int))) Gc #[.int .i64 (e : Int), .int .i64 (u : Int), .int .i64 (mp : Int), .int .i64 (mb : Int), .bool ms, .slice q.ad q.len q.cap] 36) := hid (NN.out.1.set 0 _)
      obtain ⟨⟨d0, d1, d2, d3, d4, d5⟩, -⟩ := blk6 N5.out
      have Q5 : Hid (q.l = mv ∧ q.ok (wc.setCell ⟨Gc, 0, none⟩ (.int .i64 (e : Int))) ∧ q.len ≤ 4000) := hid ⟨NN.out.2.1.1, part_setE NN.out.1 NN.out.2.1.2.1, NN.out.2.1.2.2⟩
      have B5 : Hid (Below w3.heap.size w3 (wc.setCell ⟨Gc, 0, none⟩ (.int .i64 (e : Int)))) := hid (NN.out.2.2.1.setCell (p := ⟨Gc, 0, none⟩) NN.out.2.2.2 _)
      have HE5 := HTE.out _ q Q5.out
      go_wp2_with (go_at_call 60; (with_reducible_and_instances (refine HE5.mono ?_)); rintro x w6 ⟨r, rfl, R6, b6⟩; have B6 : Hid (Below w3.heap.size w3 w6) := hid (B5.out.trans (b6.mono B5.out.size)); clear b6)
      go_ret
      exact ⟨r, rfl, by rw [HMK.out]; exact R6.out.1, R6.out.2.1, R6.out.2.2, (T3.out.later B6.out).moved⟩
end Go.Proofs.YtmiibakbcogolaaGreat.Ac
