/- Which bodies tell a request that may be. Ask of a node that is up, of a request; tell, doers. Ask of a node that is up: write. Ask of a node that is up: seal. Ask of a node that is up: read. Ask and GetReply of the bytes of requests and replies. -/
import Derived.Test.YtjldflfoncfndaaGreatNGetReq
import Derived.Test.YtjldflfoncfndaaGreatPUp
import Derived.Test.YtjldflfoncfndaaGreatNBackM
import Derived.Test.YtjldflfoncfndaaGreatNMayNo
import Derived.Test.YtjldflfoncfndaaGreatPLaw
import Derived.Test.YtjldflfoncfndaaGreatNGetRep
namespace Go.Proofs.YtjldflfoncfndaaGreat
open Go.RowKit Crcm

/-- P502: the body tells a request that may be. -/
def reqIn (b : List Nat) : Bool := reqMay (reqK b : Int) (reqL b : Int) (reqP b : Int) (b.length - 9)
end Go.Proofs.YtjldflfoncfndaaGreat
namespace Go.Proofs.YtjldflfoncfndaaGreat
open Go.RowKit Go.Shelf Crcm
variable {w w' W : World} {F : List Nat} {B : Nat} {s : SSt}

set_option maxRecDepth 100000 in
theorem tell_ok (e t : Nat) (s : Bool) (ad : Option Addr) (len cap : Nat) (l : List Nat) (w : World) (he : e ≤ 255) (ht : t ≤ 4096) (hlen : len ≤ 65504) (ha : Part.ok w ⟨ad, len, cap, l⟩) :
    Calls Tryz.prog 58 #[repV e t s ad len cap] w fun x w' => ∃ p : Part, x = .returned (.slice p.ad p.len p.cap) ∧ Hid (p.l = frameBs 2 (replyN e t s.toNat l)) ∧ Hid (p.ok w') ∧ Hid (p.len ≤ p.cap) ∧ Below w.heap.size w w' := by
  have b0 : Below w.heap.size w (w.alloc (.cells #[.int .i64 (e : Int), .int .i64 (t : Int), .bool s, .slice ad len cap] 31)) := (Below.refl _ w).alloc (Nat.le_refl _) _
  have HP := putReply_ok e t s ad len cap l _ he ht hlen (ha.later b0)
  have HB : Hid (Below w.heap.size w (w.alloc (.cells #[.int .i64 (e : Int), .int .i64 (t : Int), .bool s, .slice ad len cap] 31))) := b0
  clear b0 ha
  unfold repV at HP ⊢
  go_enter Tryz.func58, Tryz.ntmps58
  go_wp2_with (go_at_call 12; refine HP.mono ?_; rintro x w2 ⟨q, rfl, e2, k2, o2, b2⟩; have B2 : Hid (Below w.heap.size w w2) := (show Hid _ from HB.out.trans (b2.mono HB.out.size)); have L2 : Hid (q.len ≤ q.cap) := (show Hid _ from own_lc o2.out); clear b2 o2 HP)
  go_ret
  exact ⟨q, rfl, e2, k2, L2, B2.out⟩
set_option maxRecDepth 100000 in
theorem doers5 (w : World) : Calls Tryz.prog 59 #[] w fun x w' => x = .returned (.agg #[.nilFunc, .func (.func 85) #[] #[], .func (.func 86) #[] #[], .func (.func 87) #[] #[], .func (.func 88) #[] #[], .func (.func 89) #[] #[], .func (.func 90) #[] #[]]) ∧ w' = w.alloc (.cells #[.nilFunc, .func (.func 85) #[] #[], .func (.func 86) #[] #[], .func (.func 87) #[] #[], .func (.func 88) #[] #[], .func (.func 89) #[] #[], .func (.func 90) #[] #[]] 103) := by
  go_enter Tryz.func59, Tryz.ntmps59
  go_wp2
  refine bodyPost_ret (v := .agg #[.nilFunc, .func (.func 85) #[] #[], .func (.func 86) #[] #[], .func (.func 87) #[] #[], .func (.func 88) #[] #[], .func (.func 89) #[] #[], .func (.func 90) #[] #[]]) (by simp [results, Tryz.results59, go_sem]) rfl ⟨rfl, rfl⟩
theorem doers5_at (a b c d e f g : Value) (W : World) : (Instr.index 103 (.agg #[a, b, c, d, e, f, g]) (.int .i64 1)).run Tryz.prog W = .ok b W ∧ (Instr.index 103 (.agg #[a, b, c, d, e, f, g]) (.int .i64 2)).run Tryz.prog W = .ok c W ∧ (Instr.index 103 (.agg #[a, b, c, d, e, f, g]) (.int .i64 3)).run Tryz.prog W = .ok d W ∧ (Instr.index 103 (.agg #[a, b, c, d, e, f, g]) (.int .i64 4)).run Tryz.prog W = .ok e W ∧ (Instr.index 103 (.agg #[a, b, c, d, e, f, g]) (.int .i64 5)).run Tryz.prog W = .ok f W ∧ (Instr.index 103 (.agg #[a, b, c, d, e, f, g]) (.int .i64 6)).run Tryz.prog W = .ok g W := by
  refine ⟨?_, ?_, ?_, ?_, ?_, ?_⟩ <;> simp [Instr.index, go_sem]
/-- The request of a frame. -/
theorem getReq_yes (ad : Option Addr) (len cap : Nat) (l : List Nat) (w : World) (hp : Part.ok w ⟨ad, len, cap, l⟩) (hlc : len ≤ cap) (hm : len ≤ 1000000000000000) (h : unpackN l 1 9 = true) (hin : reqIn (bodyAt l 0) = true) :
    Calls Tryz.prog 15 #[.slice ad len cap] w fun e w' => ∃ g o n c : Nat, e = .returned (.tuple #[reqV (reqK (bodyAt l 0) : Nat) (reqL (bodyAt l 0) : Nat) (reqP (bodyAt l 0) : Nat) (some ⟨g, o, none⟩) n c, .int .i64 0]) ∧ Part.ok w' ⟨some ⟨g, o, none⟩, n, c, (bodyAt l 0).drop 9⟩ ∧ n ≤ c ∧ w.heap.size ≤ g ∧ Below w.heap.size w w' := by
  refine (getRequest_frame ad len cap l w true hp hlc hm h (fun ad c W => ?_)).mono ?_
  · have q := qmay_any (reqK (bodyAt l 0) : Nat) (reqL (bodyAt l 0) : Nat) (reqP (bodyAt l 0) : Nat) ad ((bodyAt l 0).length - 9) c W
    unfold reqIn at hin
    rw [hin] at q
    exact q
  · rintro e w' ⟨h1 | ⟨-, g, o, n, c, h2, h3, h4, h5⟩, hb⟩
    · cases h1.1
    · exact ⟨g, o, n, c, h2, h3, h4, h5, hb⟩
/-- What Ask leaves and answers. -/
def APost (F : List Nat) (B : Nat) (s : SSt) (l : List Nat) (w : World) (x : Ending) (w' : World) : Prop := ∃ q : Part, x = .returned (.slice q.ad q.len q.cap) ∧ q.l = l ∧ q.ok w' ∧ q.len ≤ q.cap ∧ NMoved F B s w w'
theorem chg_blk {F : List Nat} {w w' : World} {B : Nat} {cs : Array Value} {T : TypeId} (h : Blk w B cs T) (hc : Chg F w w') (hlt : ∀ g ∈ F, g < B) : Blk w' B cs T := h.chg hc (fun hm => absurd (hlt B hm) (by omega))
theorem look_small (h : s.ok) (i : Int) : (s.look i).tail ≤ 4096 := by
  unfold SSt.look
  split
  · unfold SSt.log
    cases hl : s.logs i.toNat with
    | none => simp [l0]
    | some x => exact (h.logs _ _ hl).2.1
  · simp [l0]
theorem NUp.ok (h : NUp w F B s) : s.ok := by
  obtain ⟨FD, G, S, D, X, Y, fx, fy, A, h1, h2⟩ := h
  exact h1.ok
theorem NUp.tailC (h : NUp w F B s) (S : Nat) (hc : w.cell? ⟨B, 1, none⟩ = some (.pointer (some ⟨S, 0, none⟩))) (i : Int) (h1 : -9223372036854775808 ≤ i) (h2 : i ≤ 9223372036854775807) : Calls Tryz.prog 60 #[.pointer (some ⟨S, 0, none⟩), .int .i64 i] w fun x w' => x = .returned (.int .i64 ((s.look i).tail : Nat)) ∧ Below w.heap.size w w' := by
  obtain ⟨FD, G, S', D, X, Y, fx, fy, A, k1, k2, k3⟩ := h
  have c1 : w.cell? ⟨B, 1, none⟩ = some (.pointer (some ⟨S', 0, none⟩)) := k2.cell 1
  rw [c1] at hc
  cases hc
  exact tail_pic k1 i h1 h2
theorem NUp.sealedC (h : NUp w F B s) (S : Nat) (hc : w.cell? ⟨B, 1, none⟩ = some (.pointer (some ⟨S, 0, none⟩))) (i : Int) (h1 : -9223372036854775808 ≤ i) (h2 : i ≤ 9223372036854775807) : Calls Tryz.prog 61 #[.pointer (some ⟨S, 0, none⟩), .int .i64 i] w fun x w' => x = .returned (.bool (s.look i).sealed) ∧ Below w.heap.size w w' := by
  obtain ⟨FD, G, S', D, X, Y, fx, fy, A, k1, k2, k3⟩ := h
  have c1 : w.cell? ⟨B, 1, none⟩ = some (.pointer (some ⟨S', 0, none⟩)) := k2.cell 1
  rw [c1] at hc
  cases hc
  exact sealed_pic k1 i h1 h2
theorem NUp.ptr (h : NUp w F B s) : ∃ S, w.cell? ⟨B, 1, none⟩ = some (.pointer (some ⟨S, 0, none⟩)) := by
  obtain ⟨FD, G, S', D, X, Y, fx, fy, A, k1, k2, k3⟩ := h
  exact ⟨S', k2.cell 1⟩

theorem tell_at (e t : Nat) (s : Bool) (ad : Option Addr) (len cap : Nat) (l : List Nat) (w : World) (he : e ≤ 255) (ht : t ≤ 4096) (hlen : len ≤ 65504) (ha : Part.ok w ⟨ad, len, cap, l⟩) :
    Calls Tryz.prog 58 #[.agg #[.int .i64 (e : Int), .int .i64 (t : Int), .bool s, .slice ad len cap]] w fun x w' => ∃ p : Part, x = .returned (.slice p.ad p.len p.cap) ∧ Hid (p.l = frameBs 2 (replyN e t s.toNat l)) ∧ Hid (p.ok w') ∧ Hid (p.len ≤ p.cap) ∧ Below w.heap.size w w' :=
  tell_ok e t s ad len cap l w he ht hlen ha
theorem part_dl {w w' : World} {q : Part} {l : List Nat} (h : q.l = l ∧ q.ok w) (hb : Below w.heap.size w w') : Part.ok w' ⟨q.ad, q.len, q.cap, l⟩ := by
  obtain ⟨e, k⟩ := h
  subst e
  exact k.later hb
end Go.Proofs.YtjldflfoncfndaaGreat
namespace Go.Proofs.YtjldflfoncfndaaGreat
open Go.RowKit Go.Shelf Crcm
variable {w w' W : World} {F : List Nat} {B : Nat} {s : SSt}
set_option maxRecDepth 100000 in
set_option maxHeartbeats 8000000 in
theorem ask_1 (h : NUp w F B s) (ad : Option Addr) (len cap : Nat) (l : List Nat) (hp : Part.ok w ⟨ad, len, cap, l⟩) (hlc : len ≤ cap) (hm : len ≤ 1000000000000000) (hu : unpackN l 1 9 = true) (hin : reqIn (bodyAt l 0) = true) (hk : reqK (bodyAt l 0) = 1)
    (s' : SSt) (ee : Nat) (dl : List Nat) (he : ee ≤ 255) (he8 : ee ≠ 8) (hdl : dl.length ≤ 65504)
    (hdo : ∀ (W : World) (g o n c : Nat), NUp W F B s → Part.ok W ⟨some ⟨g, o, none⟩, n, c, (bodyAt l 0).drop 9⟩ → Calls Tryz.prog 85 #[.pointer (some ⟨B, 0, none⟩), reqV 1 (reqL (bodyAt l 0) : Nat) (reqP (bodyAt l 0) : Nat) (some ⟨g, o, none⟩) n c] W (DPost F B s' dl (ee : Int) W)) :
    Calls Tryz.prog 29 #[.pointer (some ⟨B, 0, none⟩), .slice ad len cap] w (APost F B s' (frameBs 2 (replyN ee (s'.look (reqL (bodyAt l 0) : Nat)).tail (s'.look (reqL (bodyAt l 0) : Nat)).sealed.toNat dl)) w) := by
  have HU := nup_up h
  have HG := getReq_yes ad len cap l w hp hlc hm hu hin
  have hgl : reqL (bodyAt l 0) < 281474976710656 := by
    unfold reqIn at hin
    have := (reqMay_lim hin).2.1
    exact this
  rw [hk] at HG
  obtain ⟨gl, hgl0⟩ : ∃ gl, gl = reqL (bodyAt l 0) := ⟨_, rfl⟩
  obtain ⟨ps, hps0⟩ : ∃ ps, ps = reqP (bodyAt l 0) := ⟨_, rfl⟩
  rw [← hgl0, ← hps0] at HG hdo
  rw [← hgl0] at hgl ⊢
  have HLT : Hid (∀ g ∈ F, g < w.heap.size) := (show Hid _ from (by obtain ⟨_, _, _, _, _, _, _, _, _, _, _, _, _, _, _, _, hl⟩ := h; exact hl))
  have HBF : Hid (B < w.heap.size) := (show Hid _ from (by obtain ⟨_, _, _, _, _, _, _, _, _, _, k2, _⟩ := h; exact k2.lt))
  have HN : Hid (NUp w F B s) := h
  have HDO : Hid (∀ (W : World) (g o n c : Nat), NUp W F B s → Part.ok W ⟨some ⟨g, o, none⟩, n, c, (bodyAt l 0).drop 9⟩ → Calls Tryz.prog 85 #[.pointer (some ⟨B, 0, none⟩), reqV 1 (gl : Int) (ps : Int) (some ⟨g, o, none⟩) n c] W (DPost F B s' dl (ee : Int) W)) := hdo
  clear h hp hlc hm hu hin hk hgl0 hps0 hdo
  have he8' : ((ee : Int) == 8) = false := by simp; omega
  unfold reqV at HG
  go_enter Tryz.func29, Tryz.ntmps29
  go_wp2_with (first
    | (go_at_call 31; refine HU.mono ?_; rintro x w' ⟨rfl, hw'⟩; obtain rfl := hw'.symm)
    | (go_at_call 15; refine HG.mono ?_; rintro x V ⟨g, o, n, c, rfl, kp, hnc, hg, hb⟩; have BV : Hid (Below w.heap.size w V) := hb; have KP : Hid (Part.ok V ⟨some ⟨g, o, none⟩, n, c, (bodyAt l 0).drop 9⟩) := kp; clear hb kp hg HG HU))
  obtain ⟨W1, hW1⟩ : ∃ W1, (V.alloc (.cells #[.int .i64 1, .int .i64 (gl : Int), .int .i64 (ps : Int), .slice (some ⟨g, o, none⟩) n c] 27)) = W1 := ⟨_, rfl⟩
  have B1 : Hid (Below V.heap.size V W1) := (show Hid _ from (by rw [← hW1]; exact (Below.refl _ V).alloc (Nat.le_refl _) _))
  have X1 : Hid (Blk W1 V.heap.size #[.int .i64 1, .int .i64 (gl : Int), .int .i64 (ps : Int), .slice (some ⟨g, o, none⟩) n c] 27) := (show Hid _ from (by rw [← hW1]; exact heap_alloc_last V _))
  rw [hW1]
  clear hW1
  obtain ⟨W2, hW2⟩ : ∃ W2, (W1.alloc (.cells #[.nilFunc, .func (.func 85) #[] #[], .func (.func 86) #[] #[], .func (.func 87) #[] #[], .func (.func 88) #[] #[], .func (.func 89) #[] #[], .func (.func 90) #[] #[]] 103)).drew = W2 := ⟨_, rfl⟩
  have B2 : Hid (Below W1.heap.size W1 W2) := (show Hid _ from (by rw [← hW2]; exact ((Below.refl _ W1).alloc (Nat.le_refl _) _).drew))
  have X2 : Hid (Blk W2 V.heap.size #[.int .i64 1, .int .i64 (gl : Int), .int .i64 (ps : Int), .slice (some ⟨g, o, none⟩) n c] 27) := (show Hid _ from X1.out.later B2.out)
  have BW : Hid (Below w.heap.size w W2) := (show Hid _ from (BV.out.trans (B1.out.mono BV.out.size)).trans (B2.out.mono (Nat.le_trans BV.out.size B1.out.size)))
  have N2 : Hid (NUp W2 F B s) := (show Hid _ from HN.out.later BW.out)
  have HD := HDO.out W2 g o n c N2.out ((KP.out.later B1.out).later B2.out)
  unfold reqV at HD
  have SD : Hid (W1.drew.cell? ⟨V.heap.size, 0, none⟩ = some (.int .i64 1) ∧ W1.drew.cell? ⟨V.heap.size, 1, none⟩ = some (.int .i64 (gl : Int)) ∧ W1.drew.cell? ⟨V.heap.size, 2, none⟩ = some (.int .i64 (ps : Int)) ∧ W1.drew.cell? ⟨V.heap.size, 3, none⟩ = some (.slice (some ⟨g, o, none⟩) n c)) := (show Hid _ from (by have q : Blk W1.drew V.heap.size _ _ := X1.out.later (Below.refl _ _).drew; exact ⟨q.cell 0, q.cell 1, q.cell 2, q.cell 3⟩))
  have SE : Hid (W2.cell? ⟨V.heap.size, 0, none⟩ = some (.int .i64 1) ∧ W2.cell? ⟨V.heap.size, 1, none⟩ = some (.int .i64 (gl : Int)) ∧ W2.cell? ⟨V.heap.size, 2, none⟩ = some (.int .i64 (ps : Int)) ∧ W2.cell? ⟨V.heap.size, 3, none⟩ = some (.slice (some ⟨g, o, none⟩) n c)) := (show Hid _ from ⟨X2.out.cell 0, X2.out.cell 1, X2.out.cell 2, X2.out.cell 3⟩)
  have HVW : Hid (w.heap.size ≤ V.heap.size) := (show Hid _ from BV.out.size)
  have HDP : Hid (∀ x w3, DPost F B s' dl (ee : Int) W2 x w3 → ∃ q : Part, x = .returned (.tuple #[.slice q.ad q.len q.cap, .int .i64 (ee : Int)]) ∧ q.len ≤ 65504 ∧ Hid (q.l = dl ∧ q.ok w3) ∧ Hid (NMoved F B s' w w3) ∧ Hid (Blk w3 V.heap.size #[.int .i64 1, .int .i64 (gl : Int), .int .i64 (ps : Int), .slice (some ⟨g, o, none⟩) n c] 27)) := (show Hid _ from fun x w3 hx => by
    obtain ⟨q, rfl, e1, k1, m1⟩ := hx
    exact ⟨q, rfl, by rw [← k1.1, e1]; exact hdl, (show Hid _ from ⟨e1, k1⟩), (show Hid _ from m1.pre BW.out HBF.out), (show Hid _ from chg_blk X2.out m1.2.1 (fun g hg => Nat.lt_of_lt_of_le (HLT.out g hg) HVW.out))⟩)
  have hix := fun W => (doers5_at .nilFunc (.func (.func 85) #[] #[]) (.func (.func 86) #[] #[]) (.func (.func 87) #[] #[]) (.func (.func 88) #[] #[]) (.func (.func 89) #[] #[]) (.func (.func 90) #[] #[]) W).1
  go_region_held3 (fun W => W.cell? ⟨V.heap.size, 0, none⟩ = some (.int .i64 1) ∧ W.cell? ⟨V.heap.size, 1, none⟩ = some (.int .i64 (gl : Int)) ∧ W.cell? ⟨V.heap.size, 2, none⟩ = some (.int .i64 (ps : Int)) ∧ W.cell? ⟨V.heap.size, 3, none⟩ = some (.slice (some ⟨g, o, none⟩) n c))
    (first | exact SD.out | exact SE.out | exact S3.out)
    (first
      | (go_at_call 59; refine (doers5 _).mono ?_; rintro x w' ⟨rfl, hw'⟩; obtain rfl := hw'.symm)
      | (go_at_call 85; (with_reducible_and_instances (refine HD.mono ?_)); intro x w3 hx; obtain ⟨q, rfl, hq, KQ, M3, X3⟩ := HDP.out _ _ hx; have S3 : Hid (w3.cell? ⟨V.heap.size, 0, none⟩ = some (.int .i64 1) ∧ w3.cell? ⟨V.heap.size, 1, none⟩ = some (.int .i64 (gl : Int)) ∧ w3.cell? ⟨V.heap.size, 2, none⟩ = some (.int .i64 (ps : Int)) ∧ w3.cell? ⟨V.heap.size, 3, none⟩ = some (.slice (some ⟨g, o, none⟩) n c)) := (show Hid _ from ⟨X3.out.cell 0, X3.out.cell 1, X3.out.cell 2, X3.out.cell 3⟩); clear hx HD HDP))
  clear SD SE hix
  obtain ⟨⟨F3, N3, hF3⟩, C3, -⟩ := M3.out
  obtain ⟨S1, hS1⟩ := N3.ptr
  have HS2 : Hid (∀ W, Below w3.heap.size w3 W → W.cell? ⟨B, 1, none⟩ = some (.pointer (some ⟨S1, 0, none⟩)) ∧ W.cell? ⟨V.heap.size, 1, none⟩ = some (.int .i64 (gl : Int))) := (show Hid _ from fun W hW => ⟨(hW.cell (p := ⟨B, 1, none⟩) (Nat.lt_of_lt_of_le HBF.out C3.size)).trans hS1, (X3.out.later hW).cell 1⟩)
  have HT : Hid (∀ W, Below w3.heap.size w3 W → Calls Tryz.prog 60 #[.pointer (some ⟨S1, 0, none⟩), .int .i64 (gl : Int)] W fun x w' => x = .returned (.int .i64 ((s'.look (gl : Int)).tail : Nat)) ∧ Below W.heap.size W w') := (show Hid _ from fun W hW => (N3.later hW).tailC S1 (HS2.out W hW).1 (gl : Int) (by omega) (by omega))
  have HE : Hid (∀ W, Below w3.heap.size w3 W → Calls Tryz.prog 61 #[.pointer (some ⟨S1, 0, none⟩), .int .i64 (gl : Int)] W fun x w' => x = .returned (.bool (s'.look (gl : Int)).sealed) ∧ Below W.heap.size W w') := (show Hid _ from fun W hW => (N3.later hW).sealedC S1 (HS2.out W hW).1 (gl : Int) (by omega) (by omega))
  have htl := look_small N3.ok (gl : Int)
  have HM3 : Hid (∀ W, Below w3.heap.size w3 W → NMoved F B s' w W) := (show Hid _ from fun W hW => M3.out.post hW)
  clear N3 hF3 C3 hS1 M3 HN HDO
  generalize (s'.look (gl : Int)).tail = tl at *
  generalize (s'.look (gl : Int)).sealed = sl at *
  have BD : Hid (Below w3.heap.size w3 w3.drew) := (show Hid _ from (Below.refl _ _).drew)
  go_wp2_with fail
  go_region_held3 (fun W => W.cell? ⟨B, 1, none⟩ = some (.pointer (some ⟨S1, 0, none⟩)) ∧ W.cell? ⟨V.heap.size, 1, none⟩ = some (.int .i64 (gl : Int)))
    (first | exact HS2.out _ BD.out | exact HS2.out _ D4.out | exact HS2.out _ D5.out | exact HS2.out _ D6.out)
    (first
      | (go_at_call 60; (with_reducible_and_instances (refine (HT.out w3.drew BD.out).mono ?_)); rintro x w4 ⟨rfl, b4⟩; have D4 : Hid (Below w3.heap.size w3 w4) := (show Hid _ from BD.out.trans (b4.mono BD.out.size)); clear b4)
      | (go_at_call 61; (with_reducible_and_instances (refine (HE.out w3.drew BD.out).mono ?_)); rintro x w4 ⟨rfl, b4⟩; have D4 : Hid (Below w3.heap.size w3 w4) := (show Hid _ from BD.out.trans (b4.mono BD.out.size)); clear b4)
      | (go_at_call 60; (with_reducible_and_instances (refine (HT.out w4 D4.out).mono ?_)); rintro x w5 ⟨rfl, b5⟩; have D5 : Hid (Below w3.heap.size w3 w5) := (show Hid _ from D4.out.trans (b5.mono D4.out.size)); clear b5)
      | (go_at_call 61; (with_reducible_and_instances (refine (HE.out w4 D4.out).mono ?_)); rintro x w5 ⟨rfl, b5⟩; have D5 : Hid (Below w3.heap.size w3 w5) := (show Hid _ from D4.out.trans (b5.mono D4.out.size)); clear b5)
      | (go_at_call 58; (with_reducible_and_instances (refine (tell_at ee tl sl q.ad q.len q.cap dl w5 he htl hq (part_dl KQ.out D5.out)).mono ?_)); rintro x w6 ⟨r, rfl, e6, k6, l6, b6⟩; have D6 : Hid (Below w3.heap.size w3 w6) := (show Hid _ from D5.out.trans (b6.mono D5.out.size)); clear b6))
  all_goals go_wp2
  all_goals go_ret
  all_goals exact ⟨r, rfl, e6.out, k6.out, l6.out, HM3.out _ D6.out⟩
end Go.Proofs.YtjldflfoncfndaaGreat
namespace Go.Proofs.YtjldflfoncfndaaGreat
open Go.RowKit Go.Shelf Crcm
variable {w w' W : World} {F : List Nat} {B : Nat} {s : SSt}
set_option maxRecDepth 100000 in
set_option maxHeartbeats 8000000 in
theorem ask_3 (h : NUp w F B s) (ad : Option Addr) (len cap : Nat) (l : List Nat) (hp : Part.ok w ⟨ad, len, cap, l⟩) (hlc : len ≤ cap) (hm : len ≤ 1000000000000000) (hu : unpackN l 1 9 = true) (hin : reqIn (bodyAt l 0) = true) (hk : reqK (bodyAt l 0) = 3)
    (s' : SSt) (ee : Nat) (dl : List Nat) (he : ee ≤ 255) (he8 : ee ≠ 8) (hdl : dl.length ≤ 65504)
    (hdo : ∀ (W : World) (g o n c : Nat), NUp W F B s → Part.ok W ⟨some ⟨g, o, none⟩, n, c, (bodyAt l 0).drop 9⟩ → Calls Tryz.prog 87 #[.pointer (some ⟨B, 0, none⟩), reqV 3 (reqL (bodyAt l 0) : Nat) (reqP (bodyAt l 0) : Nat) (some ⟨g, o, none⟩) n c] W (DPost F B s' dl (ee : Int) W)) :
    Calls Tryz.prog 29 #[.pointer (some ⟨B, 0, none⟩), .slice ad len cap] w (APost F B s' (frameBs 2 (replyN ee (s'.look (reqL (bodyAt l 0) : Nat)).tail (s'.look (reqL (bodyAt l 0) : Nat)).sealed.toNat dl)) w) := by
  have HU := nup_up h
  have HG := getReq_yes ad len cap l w hp hlc hm hu hin
  have hgl : reqL (bodyAt l 0) < 281474976710656 := by
    unfold reqIn at hin
    have := (reqMay_lim hin).2.1
    exact this
  rw [hk] at HG
  obtain ⟨gl, hgl0⟩ : ∃ gl, gl = reqL (bodyAt l 0) := ⟨_, rfl⟩
  obtain ⟨ps, hps0⟩ : ∃ ps, ps = reqP (bodyAt l 0) := ⟨_, rfl⟩
  rw [← hgl0, ← hps0] at HG hdo
  rw [← hgl0] at hgl ⊢
  have HLT : Hid (∀ g ∈ F, g < w.heap.size) := (show Hid _ from (by obtain ⟨_, _, _, _, _, _, _, _, _, _, _, _, _, _, _, _, hl⟩ := h; exact hl))
  have HBF : Hid (B < w.heap.size) := (show Hid _ from (by obtain ⟨_, _, _, _, _, _, _, _, _, _, k2, _⟩ := h; exact k2.lt))
  have HN : Hid (NUp w F B s) := h
  have HDO : Hid (∀ (W : World) (g o n c : Nat), NUp W F B s → Part.ok W ⟨some ⟨g, o, none⟩, n, c, (bodyAt l 0).drop 9⟩ → Calls Tryz.prog 87 #[.pointer (some ⟨B, 0, none⟩), reqV 3 (gl : Int) (ps : Int) (some ⟨g, o, none⟩) n c] W (DPost F B s' dl (ee : Int) W)) := hdo
  clear h hp hlc hm hu hin hk hgl0 hps0 hdo
  have he8' : ((ee : Int) == 8) = false := by simp; omega
  unfold reqV at HG
  go_enter Tryz.func29, Tryz.ntmps29
  go_wp2_with (first
    | (go_at_call 31; refine HU.mono ?_; rintro x w' ⟨rfl, hw'⟩; obtain rfl := hw'.symm)
    | (go_at_call 15; refine HG.mono ?_; rintro x V ⟨g, o, n, c, rfl, kp, hnc, hg, hb⟩; have BV : Hid (Below w.heap.size w V) := hb; have KP : Hid (Part.ok V ⟨some ⟨g, o, none⟩, n, c, (bodyAt l 0).drop 9⟩) := kp; clear hb kp hg HG HU))
  obtain ⟨W1, hW1⟩ : ∃ W1, (V.alloc (.cells #[.int .i64 3, .int .i64 (gl : Int), .int .i64 (ps : Int), .slice (some ⟨g, o, none⟩) n c] 27)) = W1 := ⟨_, rfl⟩
  have B1 : Hid (Below V.heap.size V W1) := (show Hid _ from (by rw [← hW1]; exact (Below.refl _ V).alloc (Nat.le_refl _) _))
  have X1 : Hid (Blk W1 V.heap.size #[.int .i64 3, .int .i64 (gl : Int), .int .i64 (ps : Int), .slice (some ⟨g, o, none⟩) n c] 27) := (show Hid _ from (by rw [← hW1]; exact heap_alloc_last V _))
  rw [hW1]
  clear hW1
  obtain ⟨W2, hW2⟩ : ∃ W2, (W1.alloc (.cells #[.nilFunc, .func (.func 85) #[] #[], .func (.func 86) #[] #[], .func (.func 87) #[] #[], .func (.func 88) #[] #[], .func (.func 89) #[] #[], .func (.func 90) #[] #[]] 103)).drew = W2 := ⟨_, rfl⟩
  have B2 : Hid (Below W1.heap.size W1 W2) := (show Hid _ from (by rw [← hW2]; exact ((Below.refl _ W1).alloc (Nat.le_refl _) _).drew))
  have X2 : Hid (Blk W2 V.heap.size #[.int .i64 3, .int .i64 (gl : Int), .int .i64 (ps : Int), .slice (some ⟨g, o, none⟩) n c] 27) := (show Hid _ from X1.out.later B2.out)
  have BW : Hid (Below w.heap.size w W2) := (show Hid _ from (BV.out.trans (B1.out.mono BV.out.size)).trans (B2.out.mono (Nat.le_trans BV.out.size B1.out.size)))
  have N2 : Hid (NUp W2 F B s) := (show Hid _ from HN.out.later BW.out)
  have HD := HDO.out W2 g o n c N2.out ((KP.out.later B1.out).later B2.out)
  unfold reqV at HD
  have SD : Hid (W1.drew.cell? ⟨V.heap.size, 0, none⟩ = some (.int .i64 3) ∧ W1.drew.cell? ⟨V.heap.size, 1, none⟩ = some (.int .i64 (gl : Int)) ∧ W1.drew.cell? ⟨V.heap.size, 2, none⟩ = some (.int .i64 (ps : Int)) ∧ W1.drew.cell? ⟨V.heap.size, 3, none⟩ = some (.slice (some ⟨g, o, none⟩) n c)) := (show Hid _ from (by have q : Blk W1.drew V.heap.size _ _ := X1.out.later (Below.refl _ _).drew; exact ⟨q.cell 0, q.cell 1, q.cell 2, q.cell 3⟩))
  have SE : Hid (W2.cell? ⟨V.heap.size, 0, none⟩ = some (.int .i64 3) ∧ W2.cell? ⟨V.heap.size, 1, none⟩ = some (.int .i64 (gl : Int)) ∧ W2.cell? ⟨V.heap.size, 2, none⟩ = some (.int .i64 (ps : Int)) ∧ W2.cell? ⟨V.heap.size, 3, none⟩ = some (.slice (some ⟨g, o, none⟩) n c)) := (show Hid _ from ⟨X2.out.cell 0, X2.out.cell 1, X2.out.cell 2, X2.out.cell 3⟩)
  have HVW : Hid (w.heap.size ≤ V.heap.size) := (show Hid _ from BV.out.size)
  have HDP : Hid (∀ x w3, DPost F B s' dl (ee : Int) W2 x w3 → ∃ q : Part, x = .returned (.tuple #[.slice q.ad q.len q.cap, .int .i64 (ee : Int)]) ∧ q.len ≤ 65504 ∧ Hid (q.l = dl ∧ q.ok w3) ∧ Hid (NMoved F B s' w w3) ∧ Hid (Blk w3 V.heap.size #[.int .i64 3, .int .i64 (gl : Int), .int .i64 (ps : Int), .slice (some ⟨g, o, none⟩) n c] 27)) := (show Hid _ from fun x w3 hx => by
    obtain ⟨q, rfl, e1, k1, m1⟩ := hx
    exact ⟨q, rfl, by rw [← k1.1, e1]; exact hdl, (show Hid _ from ⟨e1, k1⟩), (show Hid _ from m1.pre BW.out HBF.out), (show Hid _ from chg_blk X2.out m1.2.1 (fun g hg => Nat.lt_of_lt_of_le (HLT.out g hg) HVW.out))⟩)
  have hix := fun W => (doers5_at .nilFunc (.func (.func 85) #[] #[]) (.func (.func 86) #[] #[]) (.func (.func 87) #[] #[]) (.func (.func 88) #[] #[]) (.func (.func 89) #[] #[]) (.func (.func 90) #[] #[]) W).2.2.1
  go_region_held3 (fun W => W.cell? ⟨V.heap.size, 0, none⟩ = some (.int .i64 3) ∧ W.cell? ⟨V.heap.size, 1, none⟩ = some (.int .i64 (gl : Int)) ∧ W.cell? ⟨V.heap.size, 2, none⟩ = some (.int .i64 (ps : Int)) ∧ W.cell? ⟨V.heap.size, 3, none⟩ = some (.slice (some ⟨g, o, none⟩) n c))
    (first | exact SD.out | exact SE.out | exact S3.out)
    (first
      | (go_at_call 59; refine (doers5 _).mono ?_; rintro x w' ⟨rfl, hw'⟩; obtain rfl := hw'.symm)
      | (go_at_call 87; (with_reducible_and_instances (refine HD.mono ?_)); intro x w3 hx; obtain ⟨q, rfl, hq, KQ, M3, X3⟩ := HDP.out _ _ hx; have S3 : Hid (w3.cell? ⟨V.heap.size, 0, none⟩ = some (.int .i64 3) ∧ w3.cell? ⟨V.heap.size, 1, none⟩ = some (.int .i64 (gl : Int)) ∧ w3.cell? ⟨V.heap.size, 2, none⟩ = some (.int .i64 (ps : Int)) ∧ w3.cell? ⟨V.heap.size, 3, none⟩ = some (.slice (some ⟨g, o, none⟩) n c)) := (show Hid _ from ⟨X3.out.cell 0, X3.out.cell 1, X3.out.cell 2, X3.out.cell 3⟩); clear hx HD HDP))
  clear SD SE hix
  obtain ⟨⟨F3, N3, hF3⟩, C3, -⟩ := M3.out
  obtain ⟨S1, hS1⟩ := N3.ptr
  have HS2 : Hid (∀ W, Below w3.heap.size w3 W → W.cell? ⟨B, 1, none⟩ = some (.pointer (some ⟨S1, 0, none⟩)) ∧ W.cell? ⟨V.heap.size, 1, none⟩ = some (.int .i64 (gl : Int))) := (show Hid _ from fun W hW => ⟨(hW.cell (p := ⟨B, 1, none⟩) (Nat.lt_of_lt_of_le HBF.out C3.size)).trans hS1, (X3.out.later hW).cell 1⟩)
  have HT : Hid (∀ W, Below w3.heap.size w3 W → Calls Tryz.prog 60 #[.pointer (some ⟨S1, 0, none⟩), .int .i64 (gl : Int)] W fun x w' => x = .returned (.int .i64 ((s'.look (gl : Int)).tail : Nat)) ∧ Below W.heap.size W w') := (show Hid _ from fun W hW => (N3.later hW).tailC S1 (HS2.out W hW).1 (gl : Int) (by omega) (by omega))
  have HE : Hid (∀ W, Below w3.heap.size w3 W → Calls Tryz.prog 61 #[.pointer (some ⟨S1, 0, none⟩), .int .i64 (gl : Int)] W fun x w' => x = .returned (.bool (s'.look (gl : Int)).sealed) ∧ Below W.heap.size W w') := (show Hid _ from fun W hW => (N3.later hW).sealedC S1 (HS2.out W hW).1 (gl : Int) (by omega) (by omega))
  have htl := look_small N3.ok (gl : Int)
  have HM3 : Hid (∀ W, Below w3.heap.size w3 W → NMoved F B s' w W) := (show Hid _ from fun W hW => M3.out.post hW)
  clear N3 hF3 C3 hS1 M3 HN HDO
  generalize (s'.look (gl : Int)).tail = tl at *
  generalize (s'.look (gl : Int)).sealed = sl at *
  have BD : Hid (Below w3.heap.size w3 w3.drew) := (show Hid _ from (Below.refl _ _).drew)
  go_wp2_with fail
  go_region_held3 (fun W => W.cell? ⟨B, 1, none⟩ = some (.pointer (some ⟨S1, 0, none⟩)) ∧ W.cell? ⟨V.heap.size, 1, none⟩ = some (.int .i64 (gl : Int)))
    (first | exact HS2.out _ BD.out | exact HS2.out _ D4.out | exact HS2.out _ D5.out | exact HS2.out _ D6.out)
    (first
      | (go_at_call 60; (with_reducible_and_instances (refine (HT.out w3.drew BD.out).mono ?_)); rintro x w4 ⟨rfl, b4⟩; have D4 : Hid (Below w3.heap.size w3 w4) := (show Hid _ from BD.out.trans (b4.mono BD.out.size)); clear b4)
      | (go_at_call 61; (with_reducible_and_instances (refine (HE.out w3.drew BD.out).mono ?_)); rintro x w4 ⟨rfl, b4⟩; have D4 : Hid (Below w3.heap.size w3 w4) := (show Hid _ from BD.out.trans (b4.mono BD.out.size)); clear b4)
      | (go_at_call 60; (with_reducible_and_instances (refine (HT.out w4 D4.out).mono ?_)); rintro x w5 ⟨rfl, b5⟩; have D5 : Hid (Below w3.heap.size w3 w5) := (show Hid _ from D4.out.trans (b5.mono D4.out.size)); clear b5)
      | (go_at_call 61; (with_reducible_and_instances (refine (HE.out w4 D4.out).mono ?_)); rintro x w5 ⟨rfl, b5⟩; have D5 : Hid (Below w3.heap.size w3 w5) := (show Hid _ from D4.out.trans (b5.mono D4.out.size)); clear b5)
      | (go_at_call 58; (with_reducible_and_instances (refine (tell_at ee tl sl q.ad q.len q.cap dl w5 he htl hq (part_dl KQ.out D5.out)).mono ?_)); rintro x w6 ⟨r, rfl, e6, k6, l6, b6⟩; have D6 : Hid (Below w3.heap.size w3 w6) := (show Hid _ from D5.out.trans (b6.mono D5.out.size)); clear b6))
  all_goals go_wp2
  all_goals go_ret
  all_goals exact ⟨r, rfl, e6.out, k6.out, l6.out, HM3.out _ D6.out⟩
end Go.Proofs.YtjldflfoncfndaaGreat
namespace Go.Proofs.YtjldflfoncfndaaGreat
open Go.RowKit Go.Shelf Crcm
variable {w w' W : World} {F : List Nat} {B : Nat} {s : SSt}
set_option maxRecDepth 100000 in
set_option maxHeartbeats 8000000 in
theorem ask_4 (h : NUp w F B s) (ad : Option Addr) (len cap : Nat) (l : List Nat) (hp : Part.ok w ⟨ad, len, cap, l⟩) (hlc : len ≤ cap) (hm : len ≤ 1000000000000000) (hu : unpackN l 1 9 = true) (hin : reqIn (bodyAt l 0) = true) (hk : reqK (bodyAt l 0) = 4)
    (s' : SSt) (ee : Nat) (dl : List Nat) (he : ee ≤ 255) (he8 : ee ≠ 8) (hdl : dl.length ≤ 65504)
    (hdo : ∀ (W : World) (g o n c : Nat), NUp W F B s → Part.ok W ⟨some ⟨g, o, none⟩, n, c, (bodyAt l 0).drop 9⟩ → Calls Tryz.prog 88 #[.pointer (some ⟨B, 0, none⟩), reqV 4 (reqL (bodyAt l 0) : Nat) (reqP (bodyAt l 0) : Nat) (some ⟨g, o, none⟩) n c] W (DPost F B s' dl (ee : Int) W)) :
    Calls Tryz.prog 29 #[.pointer (some ⟨B, 0, none⟩), .slice ad len cap] w (APost F B s' (frameBs 2 (replyN ee (s'.look (reqL (bodyAt l 0) : Nat)).tail (s'.look (reqL (bodyAt l 0) : Nat)).sealed.toNat dl)) w) := by
  have HU := nup_up h
  have HG := getReq_yes ad len cap l w hp hlc hm hu hin
  have hgl : reqL (bodyAt l 0) < 281474976710656 := by
    unfold reqIn at hin
    have := (reqMay_lim hin).2.1
    exact this
  rw [hk] at HG
  obtain ⟨gl, hgl0⟩ : ∃ gl, gl = reqL (bodyAt l 0) := ⟨_, rfl⟩
  obtain ⟨ps, hps0⟩ : ∃ ps, ps = reqP (bodyAt l 0) := ⟨_, rfl⟩
  rw [← hgl0, ← hps0] at HG hdo
  rw [← hgl0] at hgl ⊢
  have HLT : Hid (∀ g ∈ F, g < w.heap.size) := (show Hid _ from (by obtain ⟨_, _, _, _, _, _, _, _, _, _, _, _, _, _, _, _, hl⟩ := h; exact hl))
  have HBF : Hid (B < w.heap.size) := (show Hid _ from (by obtain ⟨_, _, _, _, _, _, _, _, _, _, k2, _⟩ := h; exact k2.lt))
  have HN : Hid (NUp w F B s) := h
  have HDO : Hid (∀ (W : World) (g o n c : Nat), NUp W F B s → Part.ok W ⟨some ⟨g, o, none⟩, n, c, (bodyAt l 0).drop 9⟩ → Calls Tryz.prog 88 #[.pointer (some ⟨B, 0, none⟩), reqV 4 (gl : Int) (ps : Int) (some ⟨g, o, none⟩) n c] W (DPost F B s' dl (ee : Int) W)) := hdo
  clear h hp hlc hm hu hin hk hgl0 hps0 hdo
  have he8' : ((ee : Int) == 8) = false := by simp; omega
  unfold reqV at HG
  go_enter Tryz.func29, Tryz.ntmps29
  go_wp2_with (first
    | (go_at_call 31; refine HU.mono ?_; rintro x w' ⟨rfl, hw'⟩; obtain rfl := hw'.symm)
    | (go_at_call 15; refine HG.mono ?_; rintro x V ⟨g, o, n, c, rfl, kp, hnc, hg, hb⟩; have BV : Hid (Below w.heap.size w V) := hb; have KP : Hid (Part.ok V ⟨some ⟨g, o, none⟩, n, c, (bodyAt l 0).drop 9⟩) := kp; clear hb kp hg HG HU))
  obtain ⟨W1, hW1⟩ : ∃ W1, (V.alloc (.cells #[.int .i64 4, .int .i64 (gl : Int), .int .i64 (ps : Int), .slice (some ⟨g, o, none⟩) n c] 27)) = W1 := ⟨_, rfl⟩
  have B1 : Hid (Below V.heap.size V W1) := (show Hid _ from (by rw [← hW1]; exact (Below.refl _ V).alloc (Nat.le_refl _) _))
  have X1 : Hid (Blk W1 V.heap.size #[.int .i64 4, .int .i64 (gl : Int), .int .i64 (ps : Int), .slice (some ⟨g, o, none⟩) n c] 27) := (show Hid _ from (by rw [← hW1]; exact heap_alloc_last V _))
  rw [hW1]
  clear hW1
  obtain ⟨W2, hW2⟩ : ∃ W2, (W1.alloc (.cells #[.nilFunc, .func (.func 85) #[] #[], .func (.func 86) #[] #[], .func (.func 87) #[] #[], .func (.func 88) #[] #[], .func (.func 89) #[] #[], .func (.func 90) #[] #[]] 103)).drew = W2 := ⟨_, rfl⟩
  have B2 : Hid (Below W1.heap.size W1 W2) := (show Hid _ from (by rw [← hW2]; exact ((Below.refl _ W1).alloc (Nat.le_refl _) _).drew))
  have X2 : Hid (Blk W2 V.heap.size #[.int .i64 4, .int .i64 (gl : Int), .int .i64 (ps : Int), .slice (some ⟨g, o, none⟩) n c] 27) := (show Hid _ from X1.out.later B2.out)
  have BW : Hid (Below w.heap.size w W2) := (show Hid _ from (BV.out.trans (B1.out.mono BV.out.size)).trans (B2.out.mono (Nat.le_trans BV.out.size B1.out.size)))
  have N2 : Hid (NUp W2 F B s) := (show Hid _ from HN.out.later BW.out)
  have HD := HDO.out W2 g o n c N2.out ((KP.out.later B1.out).later B2.out)
  unfold reqV at HD
  have SD : Hid (W1.drew.cell? ⟨V.heap.size, 0, none⟩ = some (.int .i64 4) ∧ W1.drew.cell? ⟨V.heap.size, 1, none⟩ = some (.int .i64 (gl : Int)) ∧ W1.drew.cell? ⟨V.heap.size, 2, none⟩ = some (.int .i64 (ps : Int)) ∧ W1.drew.cell? ⟨V.heap.size, 3, none⟩ = some (.slice (some ⟨g, o, none⟩) n c)) := (show Hid _ from (by have q : Blk W1.drew V.heap.size _ _ := X1.out.later (Below.refl _ _).drew; exact ⟨q.cell 0, q.cell 1, q.cell 2, q.cell 3⟩))
  have SE : Hid (W2.cell? ⟨V.heap.size, 0, none⟩ = some (.int .i64 4) ∧ W2.cell? ⟨V.heap.size, 1, none⟩ = some (.int .i64 (gl : Int)) ∧ W2.cell? ⟨V.heap.size, 2, none⟩ = some (.int .i64 (ps : Int)) ∧ W2.cell? ⟨V.heap.size, 3, none⟩ = some (.slice (some ⟨g, o, none⟩) n c)) := (show Hid _ from ⟨X2.out.cell 0, X2.out.cell 1, X2.out.cell 2, X2.out.cell 3⟩)
  have HVW : Hid (w.heap.size ≤ V.heap.size) := (show Hid _ from BV.out.size)
  have HDP : Hid (∀ x w3, DPost F B s' dl (ee : Int) W2 x w3 → ∃ q : Part, x = .returned (.tuple #[.slice q.ad q.len q.cap, .int .i64 (ee : Int)]) ∧ q.len ≤ 65504 ∧ Hid (q.l = dl ∧ q.ok w3) ∧ Hid (NMoved F B s' w w3) ∧ Hid (Blk w3 V.heap.size #[.int .i64 4, .int .i64 (gl : Int), .int .i64 (ps : Int), .slice (some ⟨g, o, none⟩) n c] 27)) := (show Hid _ from fun x w3 hx => by
    obtain ⟨q, rfl, e1, k1, m1⟩ := hx
    exact ⟨q, rfl, by rw [← k1.1, e1]; exact hdl, (show Hid _ from ⟨e1, k1⟩), (show Hid _ from m1.pre BW.out HBF.out), (show Hid _ from chg_blk X2.out m1.2.1 (fun g hg => Nat.lt_of_lt_of_le (HLT.out g hg) HVW.out))⟩)
  have hix := fun W => (doers5_at .nilFunc (.func (.func 85) #[] #[]) (.func (.func 86) #[] #[]) (.func (.func 87) #[] #[]) (.func (.func 88) #[] #[]) (.func (.func 89) #[] #[]) (.func (.func 90) #[] #[]) W).2.2.2.1
  go_region_held3 (fun W => W.cell? ⟨V.heap.size, 0, none⟩ = some (.int .i64 4) ∧ W.cell? ⟨V.heap.size, 1, none⟩ = some (.int .i64 (gl : Int)) ∧ W.cell? ⟨V.heap.size, 2, none⟩ = some (.int .i64 (ps : Int)) ∧ W.cell? ⟨V.heap.size, 3, none⟩ = some (.slice (some ⟨g, o, none⟩) n c))
    (first | exact SD.out | exact SE.out | exact S3.out)
    (first
      | (go_at_call 59; refine (doers5 _).mono ?_; rintro x w' ⟨rfl, hw'⟩; obtain rfl := hw'.symm)
      | (go_at_call 88; (with_reducible_and_instances (refine HD.mono ?_)); intro x w3 hx; obtain ⟨q, rfl, hq, KQ, M3, X3⟩ := HDP.out _ _ hx; have S3 : Hid (w3.cell? ⟨V.heap.size, 0, none⟩ = some (.int .i64 4) ∧ w3.cell? ⟨V.heap.size, 1, none⟩ = some (.int .i64 (gl : Int)) ∧ w3.cell? ⟨V.heap.size, 2, none⟩ = some (.int .i64 (ps : Int)) ∧ w3.cell? ⟨V.heap.size, 3, none⟩ = some (.slice (some ⟨g, o, none⟩) n c)) := (show Hid _ from ⟨X3.out.cell 0, X3.out.cell 1, X3.out.cell 2, X3.out.cell 3⟩); clear hx HD HDP))
  clear SD SE hix
  obtain ⟨⟨F3, N3, hF3⟩, C3, -⟩ := M3.out
  obtain ⟨S1, hS1⟩ := N3.ptr
  have HS2 : Hid (∀ W, Below w3.heap.size w3 W → W.cell? ⟨B, 1, none⟩ = some (.pointer (some ⟨S1, 0, none⟩)) ∧ W.cell? ⟨V.heap.size, 1, none⟩ = some (.int .i64 (gl : Int))) := (show Hid _ from fun W hW => ⟨(hW.cell (p := ⟨B, 1, none⟩) (Nat.lt_of_lt_of_le HBF.out C3.size)).trans hS1, (X3.out.later hW).cell 1⟩)
  have HT : Hid (∀ W, Below w3.heap.size w3 W → Calls Tryz.prog 60 #[.pointer (some ⟨S1, 0, none⟩), .int .i64 (gl : Int)] W fun x w' => x = .returned (.int .i64 ((s'.look (gl : Int)).tail : Nat)) ∧ Below W.heap.size W w') := (show Hid _ from fun W hW => (N3.later hW).tailC S1 (HS2.out W hW).1 (gl : Int) (by omega) (by omega))
  have HE : Hid (∀ W, Below w3.heap.size w3 W → Calls Tryz.prog 61 #[.pointer (some ⟨S1, 0, none⟩), .int .i64 (gl : Int)] W fun x w' => x = .returned (.bool (s'.look (gl : Int)).sealed) ∧ Below W.heap.size W w') := (show Hid _ from fun W hW => (N3.later hW).sealedC S1 (HS2.out W hW).1 (gl : Int) (by omega) (by omega))
  have htl := look_small N3.ok (gl : Int)
  have HM3 : Hid (∀ W, Below w3.heap.size w3 W → NMoved F B s' w W) := (show Hid _ from fun W hW => M3.out.post hW)
  clear N3 hF3 C3 hS1 M3 HN HDO
  generalize (s'.look (gl : Int)).tail = tl at *
  generalize (s'.look (gl : Int)).sealed = sl at *
  have BD : Hid (Below w3.heap.size w3 w3.drew) := (show Hid _ from (Below.refl _ _).drew)
  go_wp2_with fail
  go_region_held3 (fun W => W.cell? ⟨B, 1, none⟩ = some (.pointer (some ⟨S1, 0, none⟩)) ∧ W.cell? ⟨V.heap.size, 1, none⟩ = some (.int .i64 (gl : Int)))
    (first | exact HS2.out _ BD.out | exact HS2.out _ D4.out | exact HS2.out _ D5.out | exact HS2.out _ D6.out)
    (first
      | (go_at_call 60; (with_reducible_and_instances (refine (HT.out w3.drew BD.out).mono ?_)); rintro x w4 ⟨rfl, b4⟩; have D4 : Hid (Below w3.heap.size w3 w4) := (show Hid _ from BD.out.trans (b4.mono BD.out.size)); clear b4)
      | (go_at_call 61; (with_reducible_and_instances (refine (HE.out w3.drew BD.out).mono ?_)); rintro x w4 ⟨rfl, b4⟩; have D4 : Hid (Below w3.heap.size w3 w4) := (show Hid _ from BD.out.trans (b4.mono BD.out.size)); clear b4)
      | (go_at_call 60; (with_reducible_and_instances (refine (HT.out w4 D4.out).mono ?_)); rintro x w5 ⟨rfl, b5⟩; have D5 : Hid (Below w3.heap.size w3 w5) := (show Hid _ from D4.out.trans (b5.mono D4.out.size)); clear b5)
      | (go_at_call 61; (with_reducible_and_instances (refine (HE.out w4 D4.out).mono ?_)); rintro x w5 ⟨rfl, b5⟩; have D5 : Hid (Below w3.heap.size w3 w5) := (show Hid _ from D4.out.trans (b5.mono D4.out.size)); clear b5)
      | (go_at_call 58; (with_reducible_and_instances (refine (tell_at ee tl sl q.ad q.len q.cap dl w5 he htl hq (part_dl KQ.out D5.out)).mono ?_)); rintro x w6 ⟨r, rfl, e6, k6, l6, b6⟩; have D6 : Hid (Below w3.heap.size w3 w6) := (show Hid _ from D5.out.trans (b6.mono D5.out.size)); clear b6))
  all_goals go_wp2
  all_goals go_ret
  all_goals exact ⟨r, rfl, e6.out, k6.out, l6.out, HM3.out _ D6.out⟩
end Go.Proofs.YtjldflfoncfndaaGreat
namespace Go.Proofs.YtjldflfoncfndaaGreat
open Go.RowKit Go.Shelf Crcm
variable {w w' W : World} {F : List Nat} {B : Nat} {s : SSt}

/-- The bytes of a request. -/
theorem req_frame {w : World} {q : Part} {k gl ps : Nat} {data : List Nat} (hq : q.l = frameBs 1 (requestN k gl ps data)) (hk : q.ok w) (hmay : reqMay k gl ps data.length = true) :
    q.len ≤ 1000000000000000 ∧ unpackN q.l 1 9 = true ∧ bodyAt q.l 0 = requestN k gl ps data ∧ reqIn (bodyAt q.l 0) = true ∧ reqK (bodyAt q.l 0) = k ∧ reqL (bodyAt q.l 0) = gl ∧ reqP (bodyAt q.l 0) = ps ∧ (bodyAt q.l 0).drop 9 = data := by
  obtain ⟨l1, l2, l3, l4⟩ := reqMay_lim hmay
  have hl := requestN_length k gl ps data
  obtain ⟨u1, u2⟩ := unpack_frame 1 9 (requestN k gl ps data) (by omega) (by omega) (by omega)
  obtain ⟨r1, r2, r3, r4⟩ := reqBack k gl ps data (by omega) l2 (by omega)
  have h0 : q.l.length = q.len := hk.1
  rw [hq] at h0 ⊢
  rw [frameBs_length, hl] at h0
  rw [u2]
  refine ⟨by omega, u1, rfl, ?_, r1, r2, r3, r4⟩
  unfold reqIn
  rw [r1, r2, r3, hl, show 9 + data.length - 9 = data.length by omega]
  exact hmay
theorem ask_write (h : NUp w F B s) (q : Part) (gl ps : Nat) (data : List Nat) (hq : q.l = frameBs 1 (requestN 1 gl ps data)) (hk : q.ok w) (hlc : q.len ≤ q.cap) (hmay : reqMay 1 gl ps data.length = true) (hfew : ∀ x ∈ s.d.bs, x.vs.length ≤ 1000000) (s' : SSt) (ee : Nat) (hput : s.put gl ps data false = ((ee : Int), s')) (he : ee ≤ 255) (he8 : ee ≠ 8) :
    Calls Tryz.prog 29 #[.pointer (some ⟨B, 0, none⟩), .slice q.ad q.len q.cap] w (APost F B s' (frameBs 2 (replyN ee (s'.look (gl : Int)).tail (s'.look (gl : Int)).sealed.toNat [])) w) := by
  obtain ⟨m1, m2, m3, m4, m5, m6, m7, m8⟩ := req_frame hq hk hmay
  have q1 := ask_1 h q.ad q.len q.cap q.l hk hlc m1 m2 m4 m5 s' ee [] he he8 (by simp) (fun W g o n c hN hP => by
    rw [m6, m7]
    rw [m8] at hP
    have hn : data.length = n := hP.1
    have l4 := (reqMay_lim hmay).2.2.2
    have l2 := (reqMay_lim hmay).2.1
    have r := write_up hN 1 (gl : Int) (ps : Int) (by omega) (by omega) (some ⟨g, o, none⟩) n c data hP (by omega) hfew
    rw [hput] at r
    exact r)
  rw [m6] at q1
  exact q1
theorem ask_seal (h : NUp w F B s) (q : Part) (gl : Nat) (hq : q.l = frameBs 1 (requestN 3 gl 0 [])) (hk : q.ok w) (hlc : q.len ≤ q.cap) (hmay : reqMay 3 gl 0 0 = true) (hfew : ∀ x ∈ s.d.bs, x.vs.length ≤ 1000000) (s' : SSt) (ee : Nat) (hput : s.seal gl = ((ee : Int), s')) (he : ee ≤ 255) (he8 : ee ≠ 8) :
    Calls Tryz.prog 29 #[.pointer (some ⟨B, 0, none⟩), .slice q.ad q.len q.cap] w (APost F B s' (frameBs 2 (replyN ee (s'.look (gl : Int)).tail (s'.look (gl : Int)).sealed.toNat [])) w) := by
  obtain ⟨m1, m2, m3, m4, m5, m6, m7, m8⟩ := req_frame (k := 3) (gl := gl) (ps := 0) (data := []) hq hk hmay
  have q1 := ask_3 h q.ad q.len q.cap q.l hk hlc m1 m2 m4 m5 s' ee [] he he8 (by simp) (fun W g o n c hN hP => by
    rw [m6, m7]
    have l2 := (reqMay_lim (k := 3) (g := gl) (p := 0) hmay).2.1
    have r := seal_up hN 3 (gl : Int) ((0 : Nat) : Int) (by omega) (by omega) (some ⟨g, o, none⟩) n c hfew
    rw [hput] at r
    exact r)
  rw [m6] at q1
  exact q1
theorem ask_read (h : NUp w F B s) (q : Part) (gl ps : Nat) (hq : q.l = frameBs 1 (requestN 4 gl ps [])) (hk : q.ok w) (hlc : q.len ≤ q.cap) (hmay : reqMay 4 gl ps 0 = true) (ee : Nat) (dl : List Nat) (hget : s.get gl ps = (dl, (ee : Int))) (hdl : dl.length ≤ 65504) (he : ee ≤ 255) (he8 : ee ≠ 8) :
    Calls Tryz.prog 29 #[.pointer (some ⟨B, 0, none⟩), .slice q.ad q.len q.cap] w (APost F B s (frameBs 2 (replyN ee (s.look (gl : Int)).tail (s.look (gl : Int)).sealed.toNat dl)) w) := by
  obtain ⟨m1, m2, m3, m4, m5, m6, m7, m8⟩ := req_frame (k := 4) (gl := gl) (ps := ps) (data := []) hq hk hmay
  have q1 := ask_4 h q.ad q.len q.cap q.l hk hlc m1 m2 m4 m5 s ee dl he he8 hdl (fun W g o n c hN hP => by
    rw [m6, m7]
    have l2 := (reqMay_lim (k := 4) (g := gl) (p := ps) hmay).2.1
    have r := read_up hN 4 (gl : Int) (ps : Int) (by omega) (by omega) (some ⟨g, o, none⟩) n c (by rw [hget]; exact hdl)
    rw [hget] at r
    exact r)
  rw [m6] at q1
  exact q1
theorem getRep_of (q : Part) (e t : Nat) (sl : Bool) (dl : List Nat) (w : World) (hq : q.l = frameBs 2 (replyN e t sl.toNat dl)) (hk : q.ok w) (hlc : q.len ≤ q.cap) (he : e ≤ 255) (ht : t ≤ 4096) (hdl : dl.length ≤ 65504) :
    Calls Tryz.prog 17 #[.slice q.ad q.len q.cap] w fun x w' => ∃ g o n c : Nat, x = .returned (.tuple #[.agg #[.int .i64 (e : Int), .int .i64 (t : Int), .bool sl, .slice (some ⟨g, o, none⟩) n c], .int .i64 0]) ∧ Hid (Part.ok w' ⟨some ⟨g, o, none⟩, n, c, dl⟩) ∧ Below w.heap.size w w' := by
  have hs1 : sl.toNat ≤ 1 := by cases sl <;> decide
  have hl := replyN_length e t sl.toNat dl
  obtain ⟨u1, u2⟩ := unpack_frame 2 4 (replyN e t sl.toNat dl) (by omega) (by omega) (by omega)
  obtain ⟨r1, r2, r3, r4⟩ := repBack e t sl.toNat dl (by omega) (by omega) (by omega)
  have h0 : q.l.length = q.len := hk.1
  rw [hq, frameBs_length, hl] at h0
  have hin : repIn (replyN e t sl.toNat dl) = true := by
    unfold repIn
    rw [r2, r3, hl]
    simp only [Bool.and_eq_true, decide_eq_true_eq]
    omega
  refine (getReply_frame q.ad q.len q.cap q.l w hk hlc (by omega) (by rw [hq]; exact u1)).mono ?_
  rw [hq, u2, r1, r2, r3, r4, hin]
  rintro x w' ⟨h1 | ⟨-, g, o, n, c, h2, h3, h4, h5⟩, hb⟩
  · cases h1.1
  · refine ⟨g, o, n, c, ?_, h3, hb⟩
    rw [h2]
    unfold repV
    cases sl <;> rfl
end Go.Proofs.YtjldflfoncfndaaGreat
