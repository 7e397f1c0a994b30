/- A node beside other memory of its caller. -/
import Derived.Test.YtjldflfoncfndaaGreatPAsk2
import Derived.Test.YtjldflfoncfndaaGreatReqWalk
namespace Go.Proofs.YtjldflfoncfndaaGreat
open Go.RowKit Go.Shelf Crcm

theorem putReqN_len (k g p : Int) (l : List Nat) : (putReqN k g p l).2.length ≤ 65545 := by
  unfold putReqN
  by_cases hm : reqMay k g p l.length = true
  · rw [if_pos hm]
    obtain ⟨a, b, c, rfl, rfl, rfl⟩ := reqMay_nat hm
    have := (reqMay_lim hm).2.2.2
    simp only [Int.toNat_natCast]
    rw [frameBs_length, requestN_length]
    omega
  · rw [if_neg hm]; simp
/-- A node made by a call that began in w0, and memory of the caller's own, in the blocks of L. -/
structure KX (w0 w : World) (B : Nat) (s : SSt) (L : List (Nat × Nat)) : Prop where
  up : ∃ F, NUp w F B s ∧ (∀ g ∈ F, w0.heap.size ≤ g) ∧ ∀ b i, i ∈ L → i.1 ≤ b → b < i.2 → b ∉ F
  lim : ∀ i ∈ L, i.2 ≤ w.heap.size
  below : Below w0.heap.size w0 w
variable {w0 w w' : World} {B : Nat} {s s' : SSt} {L : List (Nat × Nat)}
theorem KX.ok (h : KX w0 w B s L) : s.ok := by
  obtain ⟨F, h1, -⟩ := h.up
  exact h1.ok
theorem KX.ltB (h : KX w0 w B s L) : B < w.heap.size := by
  obtain ⟨F, h1, -⟩ := h.up
  exact h1.ltB
theorem KX.ptr (h : KX w0 w B s L) : ∃ S, w.cell? ⟨B, 1, none⟩ = some (.pointer (some ⟨S, 0, none⟩)) := by
  obtain ⟨F, h1, -⟩ := h.up
  exact h1.ptr
theorem KX.drop (h : KX w0 w B s L) : KX w0 w B s [] := by
  obtain ⟨F, h1, h2, -⟩ := h.up
  exact ⟨⟨F, h1, h2, fun b i hi => (by cases hi)⟩, fun i hi => (by cases hi), h.below⟩
/-- What a call that makes memory alone leaves: the new memory is the caller's. -/
theorem KX.later (h : KX w0 w B s L) (hb : Below w.heap.size w w') : KX w0 w' B s ((w.heap.size, w'.heap.size) :: L) := by
  obtain ⟨F, h1, h2, h3⟩ := h.up
  have hlt : ∀ g ∈ F, g < w.heap.size := by obtain ⟨_, _, _, _, _, _, _, _, _, _, _, _, _, _, _, _, hl⟩ := h1; exact hl
  refine ⟨⟨F, h1.later hb, h2, fun b i hi h4 h5 => ?_⟩, fun i hi => ?_, h.below.trans (hb.mono h.below.size)⟩
  · simp only [List.mem_cons] at hi
    rcases hi with rfl | hi
    · exact fun hm => absurd (hlt b hm) (by simp only at h4; omega)
    · exact h3 b i hi h4 h5
  · simp only [List.mem_cons] at hi
    rcases hi with rfl | hi
    · exact Nat.le_refl _
    · exact Nat.le_trans (h.lim i hi) hb.size
/-- Ask of any bytes. -/
theorem KX.ask {q : Part} {l : List Nat} (h : KX w0 w B s L) (hg : Good s) (hq : q.l = l ∧ q.ok w) (hlc : q.len ≤ q.cap) (hm : l.length ≤ 1000000000000000) :
    Calls Tryz.prog 29 #[.pointer (some ⟨B, 0, none⟩), .slice q.ad q.len q.cap] w fun x w' => ∃ r : Part, x = .returned (.slice r.ad r.len r.cap) ∧ Hid (r.l = (askN s l).1 ∧ r.ok w' ∧ r.len ≤ r.cap) ∧ Hid (KX w0 w' B (askN s l).2 L) ∧ Hid (w'.cell? ⟨B, 1, none⟩ = w.cell? ⟨B, 1, none⟩ ∧ w.heap.size ≤ w'.heap.size ∧ ∀ b i, i ∈ L → i.1 ≤ b → b < i.2 → w'.heap[b]? = w.heap[b]?) := by
  obtain ⟨F, h1, h2, h3⟩ := h.up
  refine (ask_any h1 hg q.ad q.len q.cap l (part_is hq) hlc (by rw [← (part_is hq).1]; exact hm)).mono ?_
  rintro x w' ⟨r, rfl, e1, k1, l1, ⟨⟨F', n1, hF'⟩, hch, hcl⟩⟩
  refine ⟨r, rfl, (show Hid _ from ⟨e1, k1, l1⟩), (show Hid _ from ⟨⟨F', n1, fun g hg => ?_, fun b i hi h4 h5 hm => ?_⟩, fun i hi => Nat.le_trans (h.lim i hi) hch.size, ?_⟩), (show Hid _ from ⟨hcl, hch.size, fun b i hi h4 h5 => hch.block b (Nat.lt_of_lt_of_le h5 (h.lim i hi)) (h3 b i hi h4 h5)⟩)⟩
  · exact (hF' g hg).elim (h2 g) (fun hh => Nat.le_trans h.below.size hh)
  · exact (hF' _ hm).elim (h3 b i hi h4 h5) (fun hh => by have := h.lim i hi; omega)
  · exact h.below.trans (hch.below h2 h.below.size)
theorem KX.freeC (h : KX w0 w B s L) {S : Nat} (hc : w.cell? ⟨B, 1, none⟩ = some (.pointer (some ⟨S, 0, none⟩))) : Calls Tryz.prog 33 #[.pointer (some ⟨S, 0, none⟩)] w fun x w' => x = .returned (.int .i64 ((s.d.bs.length : Int) - (s.fin : Int))) ∧ Below w.heap.size w w' := by
  obtain ⟨F, ⟨FD, G, S', D, X', Y, fx, fy, A, k1, k2, k3⟩, -⟩ := h.up
  have c1 : w.cell? ⟨B, 1, none⟩ = some (.pointer (some ⟨S', 0, none⟩)) := k2.cell 1
  rw [c1] at hc
  cases hc
  refine (free_pic k1).mono ?_
  rintro x w' ⟨rfl, m, rfl⟩
  exact ⟨rfl, below_drewN' (Below.refl _ _) m⟩
theorem KX.upC (h : KX w0 w B s L) : Calls Tryz.prog 31 #[.pointer (some ⟨B, 0, none⟩)] w fun e w' => e = .returned (.bool true) ∧ w' = w := by
  obtain ⟨F, h1, -⟩ := h.up
  exact nup_up h1
set_option maxRecDepth 100000 in
theorem KX.storeC (h : KX w0 w B s L) {S : Nat} (hc : w.cell? ⟨B, 1, none⟩ = some (.pointer (some ⟨S, 0, none⟩))) : Calls Tryz.prog 32 #[.pointer (some ⟨B, 0, none⟩)] w fun e w' => e = .returned (.pointer (some ⟨S, 0, none⟩)) ∧ w' = w := by
  have hu := h.upC
  clear h
  go_enter Tryz.func32, Tryz.ntmps32
  go_wp2_with (go_at_call 31; refine hu.mono ?_; rintro e w' ⟨rfl, hw'⟩; obtain rfl := hw'.symm)
  go_ret
  exact ⟨rfl, rfl⟩
theorem part_keep {q : Part} (h : q.ok w) (hs : w.heap.size ≤ w'.heap.size) (hk : ∀ b off, q.ad = some ⟨b, off, none⟩ → q.l ≠ [] → w'.heap[b]? = w.heap[b]?) : q.ok w' := by
  refine ⟨h.1, h.2.1, h.2.2.1, ?_⟩
  rcases h.2.2.2 with h0 | ⟨b, off, e, hb, hc⟩
  · exact Or.inl h0
  · by_cases h0 : q.l = []
    · exact Or.inl h0
    · refine Or.inr ⟨b, off, e, Nat.lt_of_lt_of_le hb hs, fun i hi => ?_⟩
      have h1 := hk b off e h0
      simp only [World.cell?, h1]
      exact hc i hi
theorem part_lt {g o n c : Nat} {l : List Nat} (h : Part.ok w ⟨some ⟨g, o, none⟩, n, c, l⟩) (h0 : l ≠ []) : g < w.heap.size := by
  rcases h.2.2.2 with h1 | ⟨b, off, e, hb, -⟩
  · exact absurd h1 h0
  · cases e; exact hb
theorem putRequest_new {z k g p : Int} {l b : List Nat} (hr : putReqN k g p l = (z, b)) (W : World) (q : Part) (hq : q.l = l ∧ q.ok W) :
    Calls Tryz.prog 10 #[.agg #[.int .i64 k, .int .i64 g, .int .i64 p, .slice q.ad q.len q.cap]] W fun x w' => ∃ s : Part, x = .returned (.tuple #[.slice s.ad s.len s.cap, .int .i64 z]) ∧ Hid ((s.l = b ∧ s.ok w') ∧ s.len ≤ s.cap ∧ ∀ g ∈ dB s.ad, W.heap.size ≤ g ∧ g < w'.heap.size) ∧ Below W.heap.size W w' := by
  have ha := part_is hq
  have hl : l.length = q.len := ha.1
  unfold putReqN at hr
  cases hm : reqMay k g p l.length with
  | true =>
    rw [if_pos hm] at hr
    rw [hl] at hm
    obtain ⟨a, c, d, rfl, rfl, rfl⟩ := reqMay_nat hm
    simp only [Int.toNat_natCast, Prod.mk.injEq] at hr
    obtain ⟨rfl, rfl⟩ := hr
    refine (putRequest_ok a c d q.ad q.len q.cap l W hm ha).mono ?_
    rintro x w' ⟨s, rfl, e1, k1, o1, b1⟩
    exact ⟨s, rfl, (show Hid _ from ⟨⟨e1.out, k1.out⟩, own_lc o1.out, (own_dB o1.out).1⟩), b1⟩
  | false =>
    rw [if_neg (by rw [hm]; simp)] at hr
    rw [hl] at hm
    simp only [Prod.mk.injEq] at hr
    obtain ⟨rfl, rfl⟩ := hr
    refine (putRequest_no k g p q.ad q.len q.cap W hm).mono ?_
    rintro x w' ⟨rfl, b1⟩
    exact ⟨⟨none, 0, 0, []⟩, rfl, (show Hid _ from ⟨⟨rfl, nil_ok _⟩, Nat.le_refl _, fun g hg => (by cases hg)⟩), b1⟩
theorem getRep_new (q : Part) (e t : Nat) (sl : Bool) (dl : List Nat) (w : World) (hq : q.l = frameBs 2 (replyN e t sl.toNat dl)) (hk : q.ok w) (hlc : q.len ≤ q.cap) (he : e ≤ 255) (ht : t ≤ 4096) (hdl : dl.length ≤ 65504) :
    Calls Tryz.prog 17 #[.slice q.ad q.len q.cap] w fun x w' => ∃ g o n c : Nat, x = .returned (.tuple #[.agg #[.int .i64 (e : Int), .int .i64 (t : Int), .bool sl, .slice (some ⟨g, o, none⟩) n c], .int .i64 0]) ∧ Hid (Part.ok w' ⟨some ⟨g, o, none⟩, n, c, dl⟩ ∧ w.heap.size ≤ g) ∧ Below w.heap.size w w' := by
  have hs1 : sl.toNat ≤ 1 := by cases sl <;> decide
  have hl := replyN_length e t sl.toNat dl
  obtain ⟨u1, u2⟩ := unpack_frame 2 4 (replyN e t sl.toNat dl) (by omega) (by omega) (by omega)
  obtain ⟨r1, r2, r3, r4⟩ := repBack e t sl.toNat dl (by omega) (by omega) (by omega)
  have h0 : q.l.length = q.len := hk.1
  rw [hq, frameBs_length, hl] at h0
  have hin : repIn (replyN e t sl.toNat dl) = true := by
    unfold repIn
    rw [r2, r3, hl]
    simp only [Bool.and_eq_true, decide_eq_true_eq]
    omega
  refine (getReply_frame q.ad q.len q.cap q.l w hk hlc (by omega) (by rw [hq]; exact u1)).mono ?_
  rw [hq, u2, r1, r2, r3, r4, hin]
  rintro x w' ⟨h1 | ⟨-, g, o, n, c, h2, h3, h4, h5⟩, hb⟩
  · cases h1.1
  · refine ⟨g, o, n, c, ?_, (show Hid _ from ⟨h3, h5⟩), hb⟩
    rw [h2]
    unfold repV
    cases sl <;> rfl
end Go.Proofs.YtjldflfoncfndaaGreat
