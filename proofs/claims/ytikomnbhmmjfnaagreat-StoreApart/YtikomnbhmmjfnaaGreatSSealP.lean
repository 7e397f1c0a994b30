/- record of package store: an entry is written, and done. -/
import Derived.Test.YtikomnbhmmjfnaaGreatSTake2
import Derived.Test.YtikomnbhmmjfnaaGreatSWrite
namespace Go.Proofs.YtikomnbhmmjfnaaGreat
open Go.RowKit Go.Shelf
variable {w w' : World} {FD G : List Nat} {S D X Y : Nat} {fx fy : Lit → Option Value} {A : Nat → Nat → Value} {s : SSt}

set_option maxRecDepth 100000 in
set_option maxHeartbeats 1000000 in
theorem free_pic (h : SPic w FD G S D X Y fx fy A s) : Calls Tryz.prog 21 #[.pointer (some ⟨S, 0, none⟩)] w fun e w' => e = .returned (.int .i64 ((s.d.bs.length : Int) - (s.fin : Int))) ∧ ∃ m, w' = w.drewN m := by
  obtain ⟨c0, -, -, -, c4, -⟩ := h.cells
  have hm := smade_pic h
  obtain ⟨B, M, Dm, V, C, hd⟩ := h.disk
  have n2 := hd.n2
  have hfl := h.fin_le
  have hbl : ∀ m, Calls Tryz.prog 43 #[.pointer (some ⟨D, 0, none⟩)] (w.drewN m) fun e w' => e = .returned (.int .i64 (s.d.bs.length : Nat)) ∧ w' = w.drewN m := fun m => blocks_pic (hd.below (below_drewN' (Below.refl _ _) m))
  generalize s.d.bs.length = n at *
  have hwr : IntKind.i64.wrap ((n : Int) - (s.fin : Int)) = (n : Int) - (s.fin : Int) := by rw [IntKind.wrap_i64]; omega
  clear h hd
  go_enter Tryz.func21, Tryz.ntmps21
  go_wp2_with (go_at_call 47; refine hm.mono ?_; rintro e w' ⟨rfl, hw'⟩; obtain rfl := hw'.symm)
  go_quiet ((go_at_call 43; exact Calls.quiet_of_same (hbl _)))
  go_wp2
  go_ret
  exact ⟨rfl, _, rfl⟩
theorem own_dB {w : World} {N : Nat} {p : Part} {l : List Nat} (h : Own w N (.slice p.ad p.len p.cap) l) : (∀ g ∈ dB p.ad, N ≤ g ∧ g < w.heap.size) ∧ p.len ≤ p.cap := by
  obtain ⟨ad, len, cap, l'⟩ := p
  rcases h.2.2 with ⟨hv, h0⟩ | ⟨g, cap', cur, hv, hb, hg, hn, _⟩
  · cases hv
    exact ⟨by simp [dB], Nat.le_refl 0⟩
  · cases hv
    refine ⟨fun k hk => ?_, hn⟩
    simp [dB] at hk
    subst hk
    exact ⟨hb, (Array.getElem?_eq_some_iff.1 hg).1⟩
/-- The world in which the iterator over an entry's blocks has its boxes. -/
def partsW (W : World) (p number : Nat) (v : Value) : World := ((W.alloc (.cells #[.int .i64 (p : Int)] 3)).alloc (.cells #[.int .i64 (number : Int)] 3)).alloc (.cells #[v] 28)
def partsV (n : Nat) : Value := .func (.func 110) #[] #[.pointer (some ⟨n + 2, 0, none⟩), .pointer (some ⟨n, 0, none⟩), .pointer (some ⟨n + 1, 0, none⟩)]
theorem partsW_below (W : World) (p number : Nat) (v : Value) : Below W.heap.size W (partsW W p number v) := (((Below.refl _ _).alloc (Nat.le_refl _) _).alloc (by simp) _).alloc (by simp; omega) _
theorem partsW_size (W : World) (p number : Nat) (v : Value) : (partsW W p number v).heap.size = W.heap.size + 3 := by simp [partsW]
theorem partsW_seq (W : World) (K : Nat → World → Prop) (p number : Nat) (ad : Option Addr) (len cap : Nat) (text : List Nat) (hp : Part.ok W ⟨ad, len, cap, text⟩) (hlc : len ≤ cap) (hlen : len ≤ 1000000) (hnum : number < 281474976710656) (hp1 : p ≤ 1000000) (hd : ∀ g ∈ dB ad, g < W.heap.size) :
    SeqR Tryz.prog 110 #[.pointer (some ⟨W.heap.size + 2, 0, none⟩), .pointer (some ⟨W.heap.size, 0, none⟩), .pointer (some ⟨W.heap.size + 1, 0, none⟩)] (Kg ([W.heap.size, W.heap.size + 1, W.heap.size + 2] ++ dB ad)) K (RowR (rowAt p (blocksN number text))) (rowAt p (blocksN number text)).length (partsW W p number (.slice ad len cap)) := by
  rw [rowAt_length, blocksN_length, hp.1]
  have hb := partsW_below W p number (.slice ad len cap)
  obtain ⟨k1, k2, k3⟩ := three_blocks W (.cells #[.int .i64 (p : Int)] 3) (.cells #[.int .i64 (number : Int)] 3) (.cells #[.slice ad len cap] 28)
  refine parts_seq p number ad len cap text (W.heap.size + 2) W.heap.size (W.heap.size + 1) _ _ K (hp.later hb) hlc hlen hnum hp1 (cell_of_row _ _ _ _ _ _ k3) (cell_of_row _ _ _ _ _ _ k1) (cell_of_row _ _ _ _ _ _ k2) (by simp) (by simp) (by simp) (fun b off e _ => List.mem_append_right _ (by rw [e]; simp [dB])) (fun g hg => ?_)
  rw [partsW_size]
  rcases List.mem_append.1 hg with h | h
  · simp at h; omega
  · have := hd g h; omega
theorem enters_parts : ∀ args w, (callFunc 110 args).run Tryz.prog w = .ok (.enter 110 args) w := enters_of Tryz.func110 (by kernel_rfl) rfl
/-- An entry's blocks are written. -/
theorem write_parts (h : SPic w FD G S D X Y fx fy A s) (ad : Option Addr) (len cap : Nat) (text : List Nat) (hp : Part.ok w ⟨ad, len, cap, text⟩) (hlc : len ≤ cap) (hlen : len ≤ 1000000) (hd : ∀ g ∈ dB ad, g < w.heap.size ∧ g ∉ FD) (hfew : ∀ x ∈ s.d.bs, x.vs.length ≤ 1000000) :
    Calls Tryz.prog 45 #[.pointer (some ⟨S, 0, none⟩), partsV w.heap.size] (partsW w s.fin s.num (.slice ad len cap)) (WPost (partsW w s.fin s.num (.slice ad len cap)) FD G S D X Y fx fy A s (rowAt s.fin (blocksN s.num text))) := by
  have hb := partsW_below w s.fin s.num (.slice ad len cap)
  have hf := h.fin_le
  have hn := h.num_le
  refine write_any (h.below hb) 110 _ enters_parts _ _ (fun _ _ => True) (partsW_seq w _ s.fin s.num ad len cap text hp hlc hlen (by omega) (by omega) (fun g hg => (hd g hg).1)) (fun g hg => ?_) (fun _ _ _ _ _ => trivial) hfew ?_
  · rw [partsW_size]
    rcases List.mem_append.1 hg with h1 | h1
    · have hg2 : w.heap.size ≤ g ∧ g < w.heap.size + 3 := by simp at h1; omega
      exact ⟨hg2.2, fun hm => absurd (h.disk.lt g hm) (by omega)⟩
    · exact ⟨by have := (hd g h1).1; omega, (hd g h1).2⟩
  · rw [rowAt_length, blocksN_length, hp.1]
    unfold partsN
    show (len + 239) / 240 ≤ 1000000
    omega
end Go.Proofs.YtikomnbhmmjfnaaGreat

/- record of package store: its walk. -/
namespace Go.Proofs.YtikomnbhmmjfnaaGreat
open Go.RowKit Go.Shelf
variable {w w' : World} {FD G : List Nat} {S D X Y : Nat} {fx fy : Lit → Option Value} {A : Nat → Nat → Value} {s : SSt}

/-- What record answers. -/
def RPost (w : World) (FD G : List Nat) (S D X Y : Nat) (s : SSt) (e : Ent) (ad : Option Addr) (x : Ending) (w' : World) : Prop :=
  x = .returned (.int .i64 (s.record e).1) ∧ ∃ FD' G' fx' fy' A', SPic w' FD' G' S D X Y fx' fy' A' (s.record e).2 ∧ (∀ g ∈ FD', g ∈ FD ∨ w.heap.size ≤ g) ∧ (∀ g ∈ G', g ∈ G ∨ g ∈ dB ad) ∧ Chg (G ++ FD) w w'
/-- What take answers to an entry. -/
def Takes (G : List Nat) (S D X Y : Nat) (fx fy : Lit → Option Value) (A : Nat → Nat → Value) (s : SSt) (kz : Int) (e : Ent) (ad : Option Addr) (len cap : Nat) : Prop :=
  ∀ W FD' d, SPic W FD' G S D X Y fx fy A { s with d := d } → d.bs.length = s.d.bs.length → s.fin + e.parts ≤ s.d.bs.length → Part.ok W ⟨ad, len, cap, e.data⟩ → (∀ g ∈ dB ad, g < W.heap.size ∧ g ∉ FD') →
    Calls Tryz.prog 79 #[.pointer (some ⟨S, 0, none⟩), .agg #[.int .i64 kz, .int .i64 (e.loglet : Int), .int .i64 (e.pos : Int), .slice ad len cap]] W fun x w' => x = .returned (.tuple #[]) ∧ ∃ G' fx' fy' A', SPic w' FD' G' S D X Y fx' fy' A' (({ s with d := d } : SSt).takeE e) ∧ (∀ g ∈ G', g ∈ G ∨ g ∈ dB ad) ∧ Chg [S, X, Y] W w'
/-- The call of write, in record. -/
theorem write_at (h : SPic w FD G S D X Y fx fy A s) (ad : Option Addr) (len cap : Nat) (text : List Nat) (hp : Part.ok w ⟨ad, len, cap, text⟩) (hlc : len ≤ cap) (hlen : len ≤ 1000000) (hd : ∀ g ∈ dB ad, g < w.heap.size ∧ g ∉ FD) (hfew : ∀ x ∈ s.d.bs, x.vs.length ≤ 1000000) (b : Nat) (hb : b < w.heap.size) (hbF : b ∉ FD) (hbS : b ≠ S) (z : Int) (hz : z = if (lastsD s.d (rowAt s.fin (blocksN s.num text))).1 then 0 else 8) (q0 q1 q2 q3 : Value) (c0 : w.cell? ⟨b, 0, none⟩ = some q0) (c1 : w.cell? ⟨b, 1, none⟩ = some q1) (c2 : w.cell? ⟨b, 2, none⟩ = some q2) (c3 : w.cell? ⟨b, 3, none⟩ = some q3) :
    Calls Tryz.prog 45 #[.pointer (some ⟨S, 0, none⟩), .func (.func 110) #[] #[.pointer (some ⟨w.heap.size + 2, 0, none⟩), .pointer (some ⟨w.heap.size, 0, none⟩), .pointer (some ⟨w.heap.size + 1, 0, none⟩)]] (((w.alloc (.cells #[.int .i64 (s.fin : Int)] 3)).alloc (.cells #[.int .i64 (s.num : Int)] 3)).alloc (.cells #[.slice ad len cap] 28)) fun x w' => x = .returned (.int .i64 z) ∧ (w'.cell? ⟨S, 4, none⟩ = some (.int .i64 (s.fin : Int)) ∧ w'.cell? ⟨S, 3, none⟩ = some (.int .i64 (s.num : Int)) ∧ w'.cell? ⟨b, 0, none⟩ = some q0 ∧ w'.cell? ⟨b, 1, none⟩ = some q1 ∧ w'.cell? ⟨b, 2, none⟩ = some q2 ∧ w'.cell? ⟨b, 3, none⟩ = some q3) ∧
      Hid (∃ FD', SPic w' FD' G S D X Y fx fy A { s with d := (lastsD s.d (rowAt s.fin (blocksN s.num text))).2, fallen := s.fallen || !(lastsD s.d (rowAt s.fin (blocksN s.num text))).1 } ∧ (∀ g ∈ FD', g ∈ FD ∨ w.heap.size ≤ g) ∧ Chg (S :: FD) w w') := by
  refine (write_parts h ad len cap text hp hlc hlen hd hfew).mono ?_
  rintro x w' ⟨rfl, FD', hp', hn, hc⟩
  have hbel := partsW_below w s.fin s.num (.slice ad len cap)
  have hcw : Chg (S :: FD) w w' := (Chg.of (F := S :: FD) hbel).trans hc (fun k hk => Or.inl hk)
  have hk : ∀ i, w'.cell? ⟨b, i, none⟩ = w.cell? ⟨b, i, none⟩ := fun i => hcw.cell hb (by simp [hbS, hbF])
  obtain ⟨-, -, -, e3, e4, -⟩ := hp'.cells
  refine ⟨by rw [hz], ⟨e4, e3, (hk 0).trans c0, (hk 1).trans c1, (hk 2).trans c2, (hk 3).trans c3⟩, FD', hp', fun g hg => (hn g hg).imp id (fun h1 => by have := partsW_size w s.fin s.num (.slice ad len cap); omega), hcw⟩
set_option maxRecDepth 100000 in
set_option maxHeartbeats 400000 in
theorem record_any (h : SPic w FD G S D X Y fx fy A s) (kz : Int) (e : Ent) (hkz : kz = e.kind) (hk : e.kind < 256) (hl : e.loglet < 281474976710656) (hp : e.pos < 281474976710656) (ad : Option Addr) (len cap : Nat) (hda : Part.ok w ⟨ad, len, cap, e.data⟩) (hlen : len ≤ 65536) (hb : ∀ g ∈ dB ad, g < w.heap.size ∧ g ∉ FD) (hfew : ∀ x ∈ s.d.bs, x.vs.length ≤ 1000000)
    (hT : Takes G S D X Y fx fy A s kz e ad len cap) :
    Calls Tryz.prog 53 #[.pointer (some ⟨S, 0, none⟩), .agg #[.int .i64 kz, .int .i64 (e.loglet : Int), .int .i64 (e.pos : Int), .slice ad len cap]] w (RPost w FD G S D X Y s e ad) := by
  have hdl : e.data.length = len := hda.1
  have hN : e.parts = partsN (13 + len) := by unfold Ent.parts; rw [hdl]
  obtain ⟨N, hN2⟩ : ∃ N, partsN (13 + len) = N := ⟨_, rfl⟩
  have hNle : N ≤ 1000 := by rw [← hN2]; unfold partsN; omega
  have hbe := fun W => blocks_eq kz (e.loglet : Int) (e.pos : Int) ad len cap W (by omega)
  rw [hN2] at hbe hN
  have n2 := h.disk.n2
  have hfl := h.fin_le
  have hS := h.ltS
  have HKZ := hide hkz
  clear hkz
  have b2 : Below w.heap.size w ((w.alloc (.cells #[.int .i64 kz, .int .i64 (e.loglet : Int), .int .i64 (e.pos : Int), .slice ad len cap] 103)).alloc (.cells #[.int .i64 kz, .int .i64 (e.loglet : Int), .int .i64 (e.pos : Int), .slice ad len cap] 103)) := ((Below.refl _ w).alloc (Nat.le_refl _) _).alloc (by simp) _
  have h2 := h.below b2
  have hfr := free_pic h2
  by_cases hfull : s.d.bs.length < s.fin + N
  · have HX : Hid (∀ m, RPost w FD G S D X Y s e ad (.returned (.int .i64 7)) (((w.alloc (.cells #[.int .i64 kz, .int .i64 (e.loglet : Int), .int .i64 (e.pos : Int), .slice ad len cap] 103)).alloc (.cells #[.int .i64 kz, .int .i64 (e.loglet : Int), .int .i64 (e.pos : Int), .slice ad len cap] 103)).drewN m)) := fun m => by
      have hr : s.record e = (7, s) := by unfold SSt.record; rw [hN, if_pos hfull]
      unfold RPost
      rw [hr]
      have bm := below_drewN' b2 m
      exact ⟨rfl, FD, G, fx, fy, A, h.below bm, fun g hg => Or.inl hg, fun g hg => Or.inl hg, Chg.of bm⟩
    have hlt : (s.d.bs.length : Int) - (s.fin : Int) < (N : Int) := by omega
    generalize s.d.bs.length = nb at *
    clear h h2 b2 hda hb hT hfew hN hN2 hdl hfull
    go_enter Tryz.func53, Tryz.ntmps53
    go_wp2_with (first
      | (go_at_call 86; refine (hbe _).mono ?_; rintro x w' ⟨rfl, hw'⟩; obtain rfl := hw'.symm)
      | (go_at_call 21; refine hfr.mono ?_; rintro x w' ⟨rfl, m, hw'⟩; obtain rfl := hw'.symm))
    go_ret
    exact HX.out _
  · have hlt : (N : Int) ≤ (s.d.bs.length : Int) - (s.fin : Int) := by omega
    have hrow : s.rowE e = rowAt s.fin (blocksN s.num e.text) := rfl
    have HM : Hid (∀ (wb : World) (m : Nat), wb = ((w.alloc (.cells #[.int .i64 kz, .int .i64 (e.loglet : Int), .int .i64 (e.pos : Int), .slice ad len cap] 103)).alloc (.cells #[.int .i64 kz, .int .i64 (e.loglet : Int), .int .i64 (e.pos : Int), .slice ad len cap] 103)).drewN m → Below w.heap.size w wb ∧ wb.heap[w.heap.size]? = some (.cells #[.int .i64 kz, .int .i64 (e.loglet : Int), .int .i64 (e.pos : Int), .slice ad len cap] 103 (0, 0))) := fun wb m e1 => by
      subst e1
      refine ⟨below_drewN' b2 m, ?_⟩
      exact ((below_drewN' (Below.refl (w.heap.size + 1) _) m).block w.heap.size (by omega)).trans (heap_alloc2_old w _ _)
    have HFacts : Hid (∀ W, Below w.heap.size w W → W.heap[w.heap.size]? = some (.cells #[.int .i64 kz, .int .i64 (e.loglet : Int), .int .i64 (e.pos : Int), .slice ad len cap] 103 (0, 0)) → W.cell? ⟨S, 4, none⟩ = some (.int .i64 (s.fin : Int)) ∧ W.cell? ⟨S, 3, none⟩ = some (.int .i64 (s.num : Int)) ∧ W.cell? ⟨w.heap.size, 0, none⟩ = some (.int .i64 kz) ∧ W.cell? ⟨w.heap.size, 1, none⟩ = some (.int .i64 (e.loglet : Int)) ∧ W.cell? ⟨w.heap.size, 2, none⟩ = some (.int .i64 (e.pos : Int)) ∧ W.cell? ⟨w.heap.size, 3, none⟩ = some (.slice ad len cap)) := fun W hW hk => by
      obtain ⟨-, -, -, c3, c4, -⟩ := (h.below hW).cells
      exact ⟨c4, c3, cell_of_row _ _ _ _ _ _ hk, cell_of_row _ _ _ _ _ _ hk, cell_of_row _ _ _ _ _ _ hk, cell_of_row _ _ _ _ _ _ hk⟩
    have HTx : Hid (∀ W, Below w.heap.size w W → W.heap[w.heap.size]? = some (.cells #[.int .i64 kz, .int .i64 (e.loglet : Int), .int .i64 (e.pos : Int), .slice ad len cap] 103 (0, 0)) → Calls Tryz.prog 88 #[.agg #[.int .i64 kz, .int .i64 (e.loglet : Int), .int .i64 (e.pos : Int), .slice ad len cap]] W fun x w2 => ∃ pt : Part, x = .returned (.slice pt.ad pt.len pt.cap) ∧ Hid (Below w.heap.size w w2 ∧ w2.heap[w.heap.size]? = some (.cells #[.int .i64 kz, .int .i64 (e.loglet : Int), .int .i64 (e.pos : Int), .slice ad len cap] 103 (0, 0)) ∧ pt.l = e.text ∧ pt.ok w2 ∧ pt.len ≤ pt.cap ∧ pt.len ≤ 1000000 ∧ ∀ g ∈ dB pt.ad, g < w2.heap.size ∧ g ∉ FD)) := fun W hW hkW => by
      have ht := text4_any e.kind e.loglet e.pos ad len cap e.data W hk hl hp (hda.later hW) hlen
      unfold entV at ht
      rw [← HKZ.out] at ht
      refine ht.mono ?_
      rintro x w2 ⟨pt, rfl, e1, k1, o1, b1⟩
      have hd := own_dB o1.out
      have hlt1 : w.heap.size < W.heap.size := (Array.getElem?_eq_some_iff.1 hkW).1
      refine ⟨pt, rfl, hW.trans (b1.mono hW.size), (b1.block _ hlt1).trans hkW, e1.out, k1.out, hd.2, ?_, fun g hg => ⟨(hd.1 g hg).2, fun hm => ?_⟩⟩
      · rw [← k1.out.1, e1.out, entryN_length, hdl]; omega
      · have := h.disk.lt g hm; have h5 := (hd.1 g hg).1; omega
    have HWr : Hid (∀ (z : Int), z = (if (lastsD s.d (s.rowE e)).1 then 0 else 8) → ∀ (w2 : World) (pt : Part), (Below w.heap.size w w2 ∧ w2.heap[w.heap.size]? = some (.cells #[.int .i64 kz, .int .i64 (e.loglet : Int), .int .i64 (e.pos : Int), .slice ad len cap] 103 (0, 0)) ∧ pt.l = e.text ∧ pt.ok w2 ∧ pt.len ≤ pt.cap ∧ pt.len ≤ 1000000 ∧ ∀ g ∈ dB pt.ad, g < w2.heap.size ∧ g ∉ FD) →
        Calls Tryz.prog 45 #[.pointer (some ⟨S, 0, none⟩), .func (.func 110) #[] #[.pointer (some ⟨w2.heap.size + 2, 0, none⟩), .pointer (some ⟨w2.heap.size, 0, none⟩), .pointer (some ⟨w2.heap.size + 1, 0, none⟩)]] (((w2.alloc (.cells #[.int .i64 (s.fin : Int)] 3)).alloc (.cells #[.int .i64 (s.num : Int)] 3)).alloc (.cells #[.slice pt.ad pt.len pt.cap] 28)) fun x W => x = .returned (.int .i64 z) ∧ (W.cell? ⟨S, 4, none⟩ = some (.int .i64 (s.fin : Int)) ∧ W.cell? ⟨S, 3, none⟩ = some (.int .i64 (s.num : Int)) ∧ W.cell? ⟨w.heap.size, 0, none⟩ = some (.int .i64 kz) ∧ W.cell? ⟨w.heap.size, 1, none⟩ = some (.int .i64 (e.loglet : Int)) ∧ W.cell? ⟨w.heap.size, 2, none⟩ = some (.int .i64 (e.pos : Int)) ∧ W.cell? ⟨w.heap.size, 3, none⟩ = some (.slice ad len cap)) ∧
          Hid (∃ FD', SPic W FD' G S D X Y fx fy A { s with d := (lastsD s.d (s.rowE e)).2, fallen := s.fallen || !(lastsD s.d (s.rowE e)).1 } ∧ (∀ g ∈ FD', g ∈ FD ∨ w2.heap.size ≤ g) ∧ Chg (S :: FD) w2 W)) := fun z hz w2 pt ⟨p1, p2, p3, p4, p5, p6, p7⟩ => by
      obtain ⟨-, -, q0, q1, q2, q3⟩ := HFacts.out w2 p1 p2
      have hpt : Part.ok w2 ⟨pt.ad, pt.len, pt.cap, e.text⟩ := by rw [← p3]; exact p4
      exact write_at (h.below p1) pt.ad pt.len pt.cap e.text hpt p5 p6 p7 hfew w.heap.size (Array.getElem?_eq_some_iff.1 p2).1 (fun hm => absurd (h.disk.lt _ hm) (by omega)) (by omega) z hz _ _ _ _ q0 q1 q2 q3
    have HGo : Hid (∀ (w2 W : World), Below w.heap.size w w2 → Chg (S :: FD) w2 W → Chg (G ++ FD) w W) := fun w2 W p1 hc => (Chg.of (F := G ++ FD) p1).trans hc (fun k hk => Or.inl (by rcases List.mem_cons.1 hk with rfl | hk; exact List.mem_append_left _ h.mS; exact List.mem_append_right _ hk))
    have hrec : s.record e = if (lastsD s.d (s.rowE e)).1 then (0, ({ s with d := (lastsD s.d (s.rowE e)).2 } : SSt).takeE e) else (8, { s with d := (lastsD s.d (s.rowE e)).2, fallen := true }) := by unfold SSt.record; rw [hN, if_neg hfull]
    have HRe := hide hrec
    have hlast := lastsD_length s.d (s.rowE e)
    cases hok : (lastsD s.d (s.rowE e)).1 with
    | false =>
      have HX : Hid (∀ (w2 W : World), Below w.heap.size w w2 → (∃ FD', SPic W FD' G S D X Y fx fy A { s with d := (lastsD s.d (s.rowE e)).2, fallen := s.fallen || !(lastsD s.d (s.rowE e)).1 } ∧ (∀ g ∈ FD', g ∈ FD ∨ w2.heap.size ≤ g) ∧ Chg (S :: FD) w2 W) → RPost w FD G S D X Y s e ad (.returned (.int .i64 8)) W) := fun w2 W p1 ⟨FD', hp', hn, hc⟩ => by
        unfold RPost
        rw [HRe.out, hok]
        refine ⟨rfl, FD', G, fx, fy, A, ?_, fun g hg => (hn g hg).imp id (fun h5 => Nat.le_trans p1.size h5), fun g hg => Or.inl hg, HGo.out w2 W p1 hc⟩
        rw [hok] at hp'
        simpa using hp'
      have HWz := hide (HWr.out 8 (by rw [hok]; rfl))
      clear HWr HRe hrec hok hlast hrow
      generalize s.d.bs.length = nb at *
      clear h h2 b2 hda hb hT hfew hN hN2 hdl hfull
      go_enter Tryz.func53, Tryz.ntmps53
      go_wp2_with (first
        | (go_at_call 86; refine (hbe _).mono ?_; rintro x w' ⟨rfl, hw'⟩; obtain rfl := hw'.symm)
        | (go_at_call 21; refine hfr.mono ?_; rintro x wb ⟨rfl, m, hw'⟩; obtain ⟨hwb, hkb⟩ := HM.out wb m hw'; have HTd := hide (HTx.out wb.drew hwb.drew hkb); obtain ⟨k4, k3, x0, x1, x2, x3⟩ := HFacts.out wb hwb hkb; clear hw' hwb hkb))
      clear hbe hfr
      go_region_held3 (fun W => W.cell? ⟨S, 4, none⟩ = some (.int .i64 (s.fin : Int)) ∧ W.cell? ⟨S, 3, none⟩ = some (.int .i64 (s.num : Int)) ∧ W.cell? ⟨w.heap.size, 0, none⟩ = some (.int .i64 kz) ∧ W.cell? ⟨w.heap.size, 1, none⟩ = some (.int .i64 (e.loglet : Int)) ∧ W.cell? ⟨w.heap.size, 2, none⟩ = some (.int .i64 (e.pos : Int)) ∧ W.cell? ⟨w.heap.size, 3, none⟩ = some (.slice ad len cap)) (go_keep)
        (first
        | (go_at_call 88; (with_reducible_and_instances (refine HTd.out.mono ?_)); rintro x w2 ⟨pt, rfl, HP⟩; obtain ⟨k4', k3', x0', x1', x2', x3'⟩ := HFacts.out w2 HP.out.1 HP.out.2.1; have HWw := hide (HWz.out w2 pt HP.out); have z2 : w.heap.size < w2.heap.size := (Array.getElem?_eq_some_iff.1 HP.out.2.1).1; have hPW := HFacts.out (partsW w2 s.fin s.num (.slice pt.ad pt.len pt.cap)) (HP.out.1.trans ((partsW_below w2 s.fin s.num _).mono HP.out.1.size)) (((partsW_below w2 s.fin s.num _).block _ z2).trans HP.out.2.1); unfold partsW at hPW; obtain ⟨j4, j3, i0, i1, i2, i3⟩ := hPW)
        | (go_at_call 87; (with_reducible_and_instances (refine (parts_any s.fin s.num pt.ad pt.len pt.cap _).mono ?_)); rintro x w' ⟨rfl, hw'⟩; obtain rfl := hw'.symm)
        | (go_at_call 45; (with_reducible_and_instances (refine HWw.out.mono ?_)); rintro x w3 ⟨rfl, ⟨r4, r3, y0, y1, y2, y3⟩, hX3⟩))
      all_goals go_wp2
      all_goals go_ret
      all_goals exact HX.out w2 w3 HP.out.1 hX3.out
    | true =>
      have HTk : Hid (∀ (w2 W : World), Below w.heap.size w w2 → (∃ FD', SPic W FD' G S D X Y fx fy A { s with d := (lastsD s.d (s.rowE e)).2, fallen := s.fallen || !(lastsD s.d (s.rowE e)).1 } ∧ (∀ g ∈ FD', g ∈ FD ∨ w2.heap.size ≤ g) ∧ Chg (S :: FD) w2 W) →
          Calls Tryz.prog 79 #[.pointer (some ⟨S, 0, none⟩), .agg #[.int .i64 kz, .int .i64 (e.loglet : Int), .int .i64 (e.pos : Int), .slice ad len cap]] W fun x w4 => x = .returned (.tuple #[]) ∧ Hid (RPost w FD G S D X Y s e ad (.returned (.int .i64 0)) w4)) := fun w2 W p1 ⟨FD', hp', hn, hc⟩ => by
        rw [hok] at hp'
        have hp2 : SPic W FD' G S D X Y fx fy A { s with d := (lastsD s.d (s.rowE e)).2 } := by simpa using hp'
        have hpt : Part.ok W ⟨ad, len, cap, e.data⟩ := (hda.later p1).chg hc (fun b off e2 h0 hm => by
          have e2 : ad = some ⟨b, off, none⟩ := e2
          have hbF := hb b (by rw [e2]; simp [dB])
          rcases List.mem_cons.1 hm with h5 | h5
          · subst h5
            rcases hda.2.2.2 with h6 | ⟨b', off', e4, hlt', hcell⟩
            · exact h0 h6
            · have e4 : ad = some ⟨b', off', none⟩ := e4
              rw [e2] at e4
              cases e4
              exact h.not_byte (hcell 0 (List.length_pos_iff.2 h0))
          · exact hbF.2 h5)
        have hsz : w.heap.size ≤ W.heap.size := Nat.le_trans p1.size hc.size
        refine (hT W FD' _ hp2 hlast (by rw [hN]; omega) hpt (fun g hg => ⟨Nat.lt_of_lt_of_le (hb g hg).1 hsz, fun hm => (hn g hm).elim (hb g hg).2 (fun h5 => absurd (hb g hg).1 (by have := p1.size; omega))⟩)).mono ?_
        rintro x w4 ⟨rfl, G', fx', fy', A', hp4, hG', hc4⟩
        refine ⟨rfl, ?_⟩
        show RPost w FD G S D X Y s e ad (.returned (.int .i64 0)) w4
        unfold RPost
        rw [HRe.out, hok]
        refine ⟨rfl, FD', G', fx', fy', A', hp4, fun g hg => (hn g hg).imp id (fun h5 => Nat.le_trans p1.size h5), hG', (HGo.out w2 W p1 hc).trans hc4 (fun k hk => Or.inl (List.mem_append_left _ ?_))⟩
        simp at hk
        rcases hk with rfl | rfl | rfl
        · exact h.mS
        · exact h.mX
        · exact h.mY
      have HWz := hide (HWr.out 0 (by rw [hok]; rfl))
      clear HWr HRe hrec hok hlast hrow
      generalize s.d.bs.length = nb at *
      clear h h2 b2 hda hb hT hfew hN hN2 hdl hfull
      go_enter Tryz.func53, Tryz.ntmps53
      go_wp2_with (first
        | (go_at_call 86; refine (hbe _).mono ?_; rintro x w' ⟨rfl, hw'⟩; obtain rfl := hw'.symm)
        | (go_at_call 21; refine hfr.mono ?_; rintro x wb ⟨rfl, m, hw'⟩; obtain ⟨hwb, hkb⟩ := HM.out wb m hw'; have HTd := hide (HTx.out wb.drew hwb.drew hkb); obtain ⟨k4, k3, x0, x1, x2, x3⟩ := HFacts.out wb hwb hkb; clear hw' hwb hkb))
      clear hbe hfr
      go_region_held3 (fun W => W.cell? ⟨S, 4, none⟩ = some (.int .i64 (s.fin : Int)) ∧ W.cell? ⟨S, 3, none⟩ = some (.int .i64 (s.num : Int)) ∧ W.cell? ⟨w.heap.size, 0, none⟩ = some (.int .i64 kz) ∧ W.cell? ⟨w.heap.size, 1, none⟩ = some (.int .i64 (e.loglet : Int)) ∧ W.cell? ⟨w.heap.size, 2, none⟩ = some (.int .i64 (e.pos : Int)) ∧ W.cell? ⟨w.heap.size, 3, none⟩ = some (.slice ad len cap)) (go_keep)
        (first
        | (go_at_call 88; (with_reducible_and_instances (refine HTd.out.mono ?_)); rintro x w2 ⟨pt, rfl, HP⟩; obtain ⟨k4', k3', x0', x1', x2', x3'⟩ := HFacts.out w2 HP.out.1 HP.out.2.1; have HWw := hide (HWz.out w2 pt HP.out); have z2 : w.heap.size < w2.heap.size := (Array.getElem?_eq_some_iff.1 HP.out.2.1).1; have hPW := HFacts.out (partsW w2 s.fin s.num (.slice pt.ad pt.len pt.cap)) (HP.out.1.trans ((partsW_below w2 s.fin s.num _).mono HP.out.1.size)) (((partsW_below w2 s.fin s.num _).block _ z2).trans HP.out.2.1); unfold partsW at hPW; obtain ⟨j4, j3, i0, i1, i2, i3⟩ := hPW)
        | (go_at_call 87; (with_reducible_and_instances (refine (parts_any s.fin s.num pt.ad pt.len pt.cap _).mono ?_)); rintro x w' ⟨rfl, hw'⟩; obtain rfl := hw'.symm)
        | (go_at_call 45; (with_reducible_and_instances (refine HWw.out.mono ?_)); rintro x w3 ⟨rfl, ⟨r4, r3, y0, y1, y2, y3⟩, hX3⟩))
      all_goals go_wp2_with (go_at_call 79; (with_reducible_and_instances (refine (HTk.out w2 w3 HP.out.1 hX3.out).mono ?_)); rintro x w4 ⟨rfl, hX4⟩)
      all_goals go_ret
      all_goals exact hX4.out
end Go.Proofs.YtikomnbhmmjfnaaGreat

/- Put of package store. -/
namespace Go.Proofs.YtikomnbhmmjfnaaGreat
open Go.RowKit Go.Shelf
variable {w w' : World} {FD G : List Nat} {S D X Y : Nat} {fx fy : Lit → Option Value} {A : Nat → Nat → Value} {s : SSt}

/-- What a call that may write leaves. -/
def SPost (w : World) (FD G : List Nat) (S D X Y : Nat) (r : Int × SSt) (x : Ending) (w' : World) : Prop :=
  x = .returned (.int .i64 r.1) ∧ ∃ FD' G' fx' fy' A', SPic w' FD' G' S D X Y fx' fy' A' r.2 ∧ (∀ g ∈ FD', g ∈ FD ∨ w.heap.size ≤ g) ∧ (∀ g ∈ G', g ∈ G ∨ w.heap.size ≤ g) ∧ Chg (G ++ FD) w w'
theorem SPost.same (h : SPic w FD G S D X Y fx fy A s) (z : Int) (hb : Below w.heap.size w w') : SPost w FD G S D X Y (z, s) (.returned (.int .i64 z)) w' :=
  ⟨rfl, FD, G, fx, fy, A, h.below hb, fun _ hg => Or.inl hg, fun _ hg => Or.inl hg, Chg.of hb⟩
theorem RPost.post {e : Ent} {ad : Option Addr} {w2 : World} {x : Ending} (hb : Below w.heap.size w w2) (h : RPost w2 FD G S D X Y s e ad x w') (hd : ∀ g ∈ dB ad, w.heap.size ≤ g) : SPost w FD G S D X Y (s.record e) x w' := by
  obtain ⟨rfl, FD', G', fx', fy', A', hp, h1, h2, hc⟩ := h
  exact ⟨rfl, FD', G', fx', fy', A', hp, fun g hg => (h1 g hg).imp id (fun h => Nat.le_trans hb.size h), fun g hg => (h2 g hg).imp id (hd g), (Chg.of (F := G ++ FD) hb).trans hc (fun k hk => Or.inl hk)⟩
theorem takes1 (l p : Nat) (data : List Nat) (hl : l < 281474976710656) (hp : p < 4096) (ad : Option Addr) (len cap : Nat) (hdl : data.length = len) (hlen : data.length ≤ 65536) : Takes G S D X Y fx fy A s 1 ⟨1, l, p, data⟩ ad len cap := by
  intro W FD' d h hd hfin hpt hb
  refine (take1_pic h l p data hl hp ad len cap hpt hlen hb ?_).mono ?_
  · show s.fin + partsN (13 + len) ≤ d.bs.length
    rw [hd, ← hdl]; exact hfin
  · rintro x w' ⟨rfl, fx', fy', A', h1, h2⟩
    exact ⟨rfl, _, fx', fy', A', h1, fun g hg => (List.mem_append.1 hg).symm, h2⟩
set_option maxRecDepth 100000 in
set_option maxHeartbeats 400000 in
theorem again_any (a b : Option Addr) (la ca lb cb : Nat) (x y : List Nat) (w : World) (ha : Part.ok w ⟨a, la, ca, x⟩) (hb : Part.ok w ⟨b, lb, cb, y⟩) (z : Int) (hz : z = if x = y then 0 else 31) :
    Calls Tryz.prog 52 #[.slice a la ca, .slice b lb cb] w fun e w' => e = .returned (.int .i64 z) ∧ w' = w := by
  have he := equal_any a b la ca lb cb x y w ha hb
  by_cases h : x = y
  · have hd : decide (x = y) = true := by simpa using h
    rw [if_pos h] at hz
    rw [hd] at he
    subst hz
    clear h hd ha hb
    go_enter Tryz.func52, Tryz.ntmps52
    go_wp2_with (go_at_call 85; refine he.mono ?_; rintro e w' ⟨rfl, hw'⟩; obtain rfl := hw'.symm)
    go_ret
    exact ⟨rfl, rfl⟩
  · have hd : decide (x = y) = false := by simpa using h
    rw [if_neg h] at hz
    rw [hd] at he
    subst hz
    clear h hd ha hb
    go_enter Tryz.func52, Tryz.ntmps52
    go_wp2_with (go_at_call 85; refine he.mono ?_; rintro e w' ⟨rfl, hw'⟩; obtain rfl := hw'.symm)
    go_ret
    exact ⟨rfl, rfl⟩
set_option maxRecDepth 100000 in
set_option maxHeartbeats 1000000 in
theorem put_pic (h : SPic w FD G S D X Y fx fy A s) (l p : Int) (hl1 : -9223372036854775808 ≤ l) (hl2 : l ≤ 9223372036854775807) (ad : Option Addr) (len cap : Nat) (data : List Nat) (hda : Part.ok w ⟨ad, len, cap, data⟩) (hlen : len ≤ 1000000000000) (repair : Bool) (hfew : ∀ x ∈ s.d.bs, x.vs.length ≤ 1000000) :
    Calls Tryz.prog 15 #[.pointer (some ⟨S, 0, none⟩), .int .i64 l, .int .i64 p, .slice ad len cap, .bool repair] w (SPost w FD G S D X Y (s.put l p data repair)) := by
  have hm := smade_pic h
  have hpw := powerless_pic h
  have hdl : data.length = len := hda.1
  have HS : Hid (∀ z : Int, s.put l p data repair = (z, s) → SPost w FD G S D X Y (s.put l p data repair) (.returned (.int .i64 z)) w) := fun z hz => by rw [hz]; exact SPost.same h z (Below.refl _ _)
  by_cases hin : (isLogletN l && isPlaceN p) = true
  · have hL : isLogletN l = true := by simp only [Bool.and_eq_true] at hin; exact hin.1
    have hP : isPlaceN p = true := by simp only [Bool.and_eq_true] at hin; exact hin.2
    obtain ⟨l, rfl⟩ : ∃ n : Nat, l = n := ⟨l.toNat, by simp [isLogletN] at hL; omega⟩
    obtain ⟨p, rfl⟩ : ∃ n : Nat, p = n := ⟨p.toNat, by simp [isPlaceN] at hP; omega⟩
    have hl3 : l < 281474976710656 := by simp [isLogletN] at hL; omega
    have hp3 : p < 4096 := by simp [isPlaceN] at hP; omega
    by_cases hsz : 65536 < len
    · have HX := hide (HS.out 6 (by unfold SSt.put; rw [if_pos hin, if_pos (by omega)]))
      have hsz2 : (65536 : Int) < (len : Int) := by omega
      clear h hda hin hpw hfew HS hdl hsz hl1 hl2
      generalize s.put (l : Int) (p : Int) data repair = R at *
      go_enter Tryz.func15, Tryz.ntmps15
      go_wp2_with (first
        | (go_at_call 47; refine hm.mono ?_; rintro e w' ⟨rfl, hw'⟩; obtain rfl := hw'.symm)
        | (go_at_call 48; refine (isLoglet_any _ _).mono ?_; rintro e w' ⟨rfl, hw'⟩; obtain rfl := hw'.symm; rw [hL])
        | (go_at_call 49; refine (isPlace_any _ _).mono ?_; rintro e w' ⟨rfl, hw'⟩; obtain rfl := hw'.symm; rw [hP]))
      all_goals go_ret
      all_goals exact HX.out
    · have hln : len ≤ 65536 := by omega
      have hsz2 : (decide ((65536 : Int) < (len : Int))) = false := by simp; omega
      cases hdn : s.down with
      | true =>
        have HX := hide (HS.out 8 (by unfold SSt.put; rw [if_pos hin, if_neg (by omega), if_pos hdn]))
        rw [hdn] at hpw
        clear h hda hin hfew HS hdl hsz hl1 hl2 hdn hln hlen hl3 hp3
        generalize s.put (l : Int) (p : Int) data repair = R at *
        go_enter Tryz.func15, Tryz.ntmps15
        go_wp2_with (first
          | (go_at_call 47; refine hm.mono ?_; rintro e w' ⟨rfl, hw'⟩; obtain rfl := hw'.symm)
          | (go_at_call 48; refine (isLoglet_any _ _).mono ?_; rintro e w' ⟨rfl, hw'⟩; obtain rfl := hw'.symm; rw [hL])
          | (go_at_call 49; refine (isPlace_any _ _).mono ?_; rintro e w' ⟨rfl, hw'⟩; obtain rfl := hw'.symm; rw [hP])
          | (go_at_call 51; refine hpw.mono ?_; rintro e w' ⟨rfl, hw'⟩; obtain rfl := hw'.symm))
        all_goals go_ret
        all_goals exact HX.out
      | false =>
        rw [hdn] at hpw
        obtain ⟨x, hx0⟩ : ∃ x, s.log l = x := ⟨_, rfl⟩
        have hlY := h.lookY (l : Int) hl1 hl2
        rw [look_nat, hx0] at hlY
        unfold logV at hlY
        have hf1 := fun W => (fld52 (.int .i64 (x.tail : Int)) (.int .i64 (x.trim : Int)) (.bool x.sealed) W).2.1
        have hf2 := fun W => (fld52 (.int .i64 (x.tail : Int)) (.int .i64 (x.trim : Int)) (.bool x.sealed) W).2.2
        obtain ⟨-, c1, c2, -⟩ := h.cells
        have hlX := h.lookX l p hl3 hp3
        have hput : s.put (l : Int) (p : Int) data repair = if p < x.trim then (32, s) else match s.slots l p with | some was => if was = data then (0, s) else (31, s) | none => if x.sealed && !repair then (30, s) else s.record ⟨1, l, p, data⟩ := by
          unfold SSt.put
          rw [if_pos hin, if_neg (by omega), if_neg (by rw [hdn]; simp), Int.toNat_natCast, Int.toNat_natCast, hx0]
          cases s.slots l p <;> rfl
        have HPu := hide hput
        clear hput hx0
        by_cases htr : p < x.trim
        · have HX := hide (HS.out 32 (by rw [HPu.out, if_pos htr]))
          have htr2 : (p : Int) < (x.trim : Int) := by omega
          clear h hda hin hfew HS hdl hsz hl1 hl2 hdn HPu hln hlen hl3 hp3 htr hlX
          generalize s.put (l : Int) (p : Int) data repair = R at *
          go_enter Tryz.func15, Tryz.ntmps15
          go_wp2_with (first
            | (go_at_call 47; refine hm.mono ?_; rintro e w' ⟨rfl, hw'⟩; obtain rfl := hw'.symm)
            | (go_at_call 48; refine (isLoglet_any _ _).mono ?_; rintro e w' ⟨rfl, hw'⟩; obtain rfl := hw'.symm; rw [hL])
            | (go_at_call 49; refine (isPlace_any _ _).mono ?_; rintro e w' ⟨rfl, hw'⟩; obtain rfl := hw'.symm; rw [hP])
            | (go_at_call 51; refine hpw.mono ?_; rintro e w' ⟨rfl, hw'⟩; obtain rfl := hw'.symm))
          all_goals go_ret
          all_goals exact HX.out
        · have htr2 : (decide (p < x.trim)) = false := decide_eq_false htr
          cases hsl : s.slots l p with
          | some was =>
            obtain ⟨a2, cp2, e2, hp2, -⟩ := h.dat l p was hsl
            rw [hsl, Option.map_some, Option.getD_some, Option.isSome_some, e2] at hlX
            obtain ⟨z, hz⟩ : ∃ z : Int, z = if was = data then 0 else 31 := ⟨_, rfl⟩
            have HX := hide (HS.out z (by rw [HPu.out, if_neg htr, hsl]; simp only; rw [hz]; split <;> rfl))
            have hag := again_any a2 ad was.length cp2 len cap was data w hp2 hda z hz
            generalize was.length = lw at *
            clear h hda hin hfew HS hdl hsz hl1 hl2 hdn HPu hln hlen hl3 hp3 htr hp2 e2 hsl hz
            generalize s.put (l : Int) (p : Int) data repair = R at *
            go_enter Tryz.func15, Tryz.ntmps15
            go_wp2_with (first
              | (go_at_call 47; refine hm.mono ?_; rintro e w' ⟨rfl, hw'⟩; obtain rfl := hw'.symm)
              | (go_at_call 48; refine (isLoglet_any _ _).mono ?_; rintro e w' ⟨rfl, hw'⟩; obtain rfl := hw'.symm; rw [hL])
              | (go_at_call 49; refine (isPlace_any _ _).mono ?_; rintro e w' ⟨rfl, hw'⟩; obtain rfl := hw'.symm; rw [hP])
              | (go_at_call 51; refine hpw.mono ?_; rintro e w' ⟨rfl, hw'⟩; obtain rfl := hw'.symm)
              | (go_at_call 52; refine hag.mono ?_; rintro e w' ⟨rfl, hw'⟩; obtain rfl := hw'.symm))
            all_goals go_ret
            all_goals exact HX.out
          | none =>
            rw [hsl, Option.map_none, Option.getD_none, Option.isSome_none] at hlX
            cases hse : (x.sealed && !repair) with
            | true =>
              have HX := hide (HS.out 30 (by rw [HPu.out, if_neg htr, hsl]; simp only; rw [if_pos hse]))
              obtain ⟨h5, h6⟩ : x.sealed = true ∧ repair = false := by simpa using hse
              subst h6
              rw [h5] at hlY hf1 hf2
              clear h hda hin hfew HS hdl hsz hl1 hl2 hdn HPu hln hlen hl3 hp3 htr hsl hse h5
              generalize s.put (l : Int) (p : Int) data false = R at *
              go_enter Tryz.func15, Tryz.ntmps15
              go_wp2_with (first
                | (go_at_call 47; refine hm.mono ?_; rintro e w' ⟨rfl, hw'⟩; obtain rfl := hw'.symm)
                | (go_at_call 48; refine (isLoglet_any _ _).mono ?_; rintro e w' ⟨rfl, hw'⟩; obtain rfl := hw'.symm; rw [hL])
                | (go_at_call 49; refine (isPlace_any _ _).mono ?_; rintro e w' ⟨rfl, hw'⟩; obtain rfl := hw'.symm; rw [hP])
                | (go_at_call 51; refine hpw.mono ?_; rintro e w' ⟨rfl, hw'⟩; obtain rfl := hw'.symm))
              all_goals go_ret
              all_goals exact HX.out
            | false =>
              have hrec : s.put (l : Int) (p : Int) data repair = s.record ⟨1, l, p, data⟩ := by rw [HPu.out, if_neg htr, hsl]; simp only; rw [hse]; rfl
              rw [hrec]
              have hcl := bclone_any ad len cap data w hda (by omega)
              have HRc : Hid (∀ (w2 : World) (q : Part), Below w.heap.size w w2 → Hid (q.l = data) → Hid (Own w2 w.heap.size (.slice q.ad q.len q.cap) data) → Hid (q.ok w2) → Calls Tryz.prog 53 #[.pointer (some ⟨S, 0, none⟩), .agg #[.int .i64 1, .int .i64 (l : Int), .int .i64 (p : Int), .slice q.ad q.len q.cap]] w2 fun e w3 => ∃ z : Int, e = .returned (.int .i64 z) ∧ Hid (SPost w FD G S D X Y (s.record ⟨1, l, p, data⟩) e w3)) := fun w2 q hb e1 o1 k1 => by
                have hd := own_dB o1.out
                have hql : q.len = len := by rw [← k1.out.1, e1.out, hdl]
                have hqo : Part.ok w2 ⟨q.ad, q.len, q.cap, (⟨1, l, p, data⟩ : Ent).data⟩ := by have := k1.out; rw [← e1.out]; exact this
                refine (record_any (h.below hb) 1 ⟨1, l, p, data⟩ rfl (by show 1 < 256; omega) hl3 (by show p < 281474976710656; omega) q.ad q.len q.cap hqo (by omega) (fun g hg => ⟨(hd.1 g hg).2, fun hm => absurd (h.disk.lt g hm) (by have := (hd.1 g hg).1; omega)⟩) hfew (takes1 l p data hl3 hp3 q.ad q.len q.cap (by rw [hdl, hql]) (by omega))).mono ?_
                intro e w3 hr
                refine ⟨_, hr.1, hr.post hb (fun g hg => (hd.1 g hg).1)⟩
              have hcase : x.sealed = false ∨ repair = true := by cases hx : x.sealed <;> cases repair <;> simp_all
              clear h hda hin hfew HS hdl hsz hl1 hl2 hdn HPu hln hlen hl3 hp3 htr hsl hse hrec
              generalize s.record ⟨1, l, p, data⟩ = R at *
              rcases hcase with h5 | h5
              · rw [h5] at hlY hf1 hf2
                clear h5
                go_enter Tryz.func15, Tryz.ntmps15
                go_wp2_with (first
                  | (go_at_call 47; refine hm.mono ?_; rintro e w' ⟨rfl, hw'⟩; obtain rfl := hw'.symm)
                  | (go_at_call 48; refine (isLoglet_any _ _).mono ?_; rintro e w' ⟨rfl, hw'⟩; obtain rfl := hw'.symm; rw [hL])
                  | (go_at_call 49; refine (isPlace_any _ _).mono ?_; rintro e w' ⟨rfl, hw'⟩; obtain rfl := hw'.symm; rw [hP])
                  | (go_at_call 51; refine hpw.mono ?_; rintro e w' ⟨rfl, hw'⟩; obtain rfl := hw'.symm)
                  | (go_at_call 50; refine hcl.mono ?_; rintro e w2 ⟨q, rfl, e1, o1, k1, b1⟩)
                  | (go_at_call 53; (with_reducible_and_instances (refine (HRc.out w2 q b1 e1 o1 k1).mono ?_)); rintro e w3 ⟨z, rfl, hX3⟩))
                all_goals go_ret
                all_goals exact hX3.out
              · subst h5
                cases h7 : x.sealed with
                | true =>
                  rw [h7] at hlY hf1 hf2
                  clear h7
                  go_enter Tryz.func15, Tryz.ntmps15
                  go_wp2_with (first
                    | (go_at_call 47; refine hm.mono ?_; rintro e w' ⟨rfl, hw'⟩; obtain rfl := hw'.symm)
                    | (go_at_call 48; refine (isLoglet_any _ _).mono ?_; rintro e w' ⟨rfl, hw'⟩; obtain rfl := hw'.symm; rw [hL])
                    | (go_at_call 49; refine (isPlace_any _ _).mono ?_; rintro e w' ⟨rfl, hw'⟩; obtain rfl := hw'.symm; rw [hP])
                    | (go_at_call 51; refine hpw.mono ?_; rintro e w' ⟨rfl, hw'⟩; obtain rfl := hw'.symm)
                    | (go_at_call 50; refine hcl.mono ?_; rintro e w2 ⟨q, rfl, e1, o1, k1, b1⟩)
                    | (go_at_call 53; (with_reducible_and_instances (refine (HRc.out w2 q b1 e1 o1 k1).mono ?_)); rintro e w3 ⟨z, rfl, hX3⟩))
                  all_goals go_ret
                  all_goals exact hX3.out
                | false =>
                  rw [h7] at hlY hf1 hf2
                  clear h7
                  go_enter Tryz.func15, Tryz.ntmps15
                  go_wp2_with (first
                    | (go_at_call 47; refine hm.mono ?_; rintro e w' ⟨rfl, hw'⟩; obtain rfl := hw'.symm)
                    | (go_at_call 48; refine (isLoglet_any _ _).mono ?_; rintro e w' ⟨rfl, hw'⟩; obtain rfl := hw'.symm; rw [hL])
                    | (go_at_call 49; refine (isPlace_any _ _).mono ?_; rintro e w' ⟨rfl, hw'⟩; obtain rfl := hw'.symm; rw [hP])
                    | (go_at_call 51; refine hpw.mono ?_; rintro e w' ⟨rfl, hw'⟩; obtain rfl := hw'.symm)
                    | (go_at_call 50; refine hcl.mono ?_; rintro e w2 ⟨q, rfl, e1, o1, k1, b1⟩)
                    | (go_at_call 53; (with_reducible_and_instances (refine (HRc.out w2 q b1 e1 o1 k1).mono ?_)); rintro e w3 ⟨z, rfl, hX3⟩))
                  all_goals go_ret
                  all_goals exact hX3.out
  · have HX := hide (HS.out 1 (by unfold SSt.put; rw [if_neg hin]))
    cases hL : isLogletN l with
    | false =>
      clear h hda hin hfew HS hdl hl1 hl2 hpw
      generalize s.put l p data repair = R at *
      go_enter Tryz.func15, Tryz.ntmps15
      go_wp2_with (first
        | (go_at_call 47; refine hm.mono ?_; rintro e w' ⟨rfl, hw'⟩; obtain rfl := hw'.symm)
        | (go_at_call 48; refine (isLoglet_any _ _).mono ?_; rintro e w' ⟨rfl, hw'⟩; obtain rfl := hw'.symm; rw [hL]))
      all_goals go_ret
      all_goals exact HX.out
    | true =>
      have hP : isPlaceN p = false := by rw [hL] at hin; simpa using hin
      clear h hda hin hfew HS hdl hl1 hl2 hpw
      generalize s.put l p data repair = R at *
      go_enter Tryz.func15, Tryz.ntmps15
      go_wp2_with (first
        | (go_at_call 47; refine hm.mono ?_; rintro e w' ⟨rfl, hw'⟩; obtain rfl := hw'.symm)
        | (go_at_call 48; refine (isLoglet_any _ _).mono ?_; rintro e w' ⟨rfl, hw'⟩; obtain rfl := hw'.symm; rw [hL])
        | (go_at_call 49; refine (isPlace_any _ _).mono ?_; rintro e w' ⟨rfl, hw'⟩; obtain rfl := hw'.symm; rw [hP]))
      all_goals go_ret
      all_goals exact HX.out
end Go.Proofs.YtikomnbhmmjfnaaGreat

/- Seal of package store (written by wip/gensealp.py). -/
namespace Go.Proofs.YtikomnbhmmjfnaaGreat
open Go.RowKit Go.Shelf
variable {w w' : World} {FD G : List Nat} {S D X Y : Nat} {fx fy : Lit → Option Value} {A : Nat → Nat → Value} {s : SSt}

theorem takes2 (l : Nat) (hl : l < 281474976710656) : Takes G S D X Y fx fy A s 2 ⟨2, l, 0, []⟩ none 0 0 := by
  intro W FD' d h hd hfin _ _
  refine (take2_pic h l 0 hl ?_).mono ?_
  · show s.fin + 1 ≤ d.bs.length
    rw [hd]; have e1 : (⟨2, l, 0, []⟩ : Ent).parts = 1 := by simp [Ent.parts, partsN]
    rw [e1] at hfin; exact hfin
  · rintro x w' ⟨rfl, fx', fy', A', h1, h2⟩
    exact ⟨rfl, _, fx', fy', A', h1, fun g hg => Or.inl hg, h2⟩
set_option maxRecDepth 100000 in
set_option maxHeartbeats 1000000 in
theorem seal_pic (h : SPic w FD G S D X Y fx fy A s) (l : Int) (hl1 : -9223372036854775808 ≤ l) (hl2 : l ≤ 9223372036854775807) (hfew : ∀ x ∈ s.d.bs, x.vs.length ≤ 1000000) :
    Calls Tryz.prog 16 #[.pointer (some ⟨S, 0, none⟩), .int .i64 l] w (SPost w FD G S D X Y (s.seal l)) := by
  have hm := smade_pic h
  have hpw := powerless_pic h
  have HS : Hid (∀ z : Int, s.seal l = (z, s) → SPost w FD G S D X Y (s.seal l) (.returned (.int .i64 z)) w) := fun z hz => by rw [hz]; exact SPost.same h z (Below.refl _ _)
  cases hL : isLogletN l with
  | false =>
    have HX := hide (HS.out 1 (by unfold SSt.seal; rw [hL]; rfl))
    clear h hfew HS hl1 hl2 hpw
    generalize s.seal l = R at *
    go_enter Tryz.func16, Tryz.ntmps16
    go_wp2_with (first
      | (go_at_call 47; refine hm.mono ?_; rintro e w' ⟨rfl, hw'⟩; obtain rfl := hw'.symm)
      | (go_at_call 48; refine (isLoglet_any _ _).mono ?_; rintro e w' ⟨rfl, hw'⟩; obtain rfl := hw'.symm; rw [hL]))
    all_goals go_ret
    all_goals exact HX.out
  | true =>
    obtain ⟨l, rfl⟩ : ∃ n : Nat, l = n := ⟨l.toNat, by simp [isLogletN] at hL; omega⟩
    have hl3 : l < 281474976710656 := by simp [isLogletN] at hL; omega
    cases hdn : s.down with
    | true =>
      have HX := hide (HS.out 8 (by unfold SSt.seal; rw [hL, hdn]; rfl))
      rw [hdn] at hpw
      clear h hfew HS hl1 hl2 hdn hl3
      generalize s.seal (l : Int) = R at *
      go_enter Tryz.func16, Tryz.ntmps16
      go_wp2_with (first
        | (go_at_call 47; refine hm.mono ?_; rintro e w' ⟨rfl, hw'⟩; obtain rfl := hw'.symm)
        | (go_at_call 48; refine (isLoglet_any _ _).mono ?_; rintro e w' ⟨rfl, hw'⟩; obtain rfl := hw'.symm; rw [hL])
        | (go_at_call 51; refine hpw.mono ?_; rintro e w' ⟨rfl, hw'⟩; obtain rfl := hw'.symm))
      all_goals go_ret
      all_goals exact HX.out
    | false =>
      rw [hdn] at hpw
      obtain ⟨x, hx0⟩ : ∃ x, s.log l = x := ⟨_, rfl⟩
      have hlY := h.lookY (l : Int) hl1 hl2
      rw [look_nat, hx0] at hlY
      unfold logV at hlY
      have hf2 := fun W => (fld52 (.int .i64 (x.tail : Int)) (.int .i64 (x.trim : Int)) (.bool x.sealed) W).2.2
      obtain ⟨-, -, c2, -⟩ := h.cells
      have hse : s.seal (l : Int) = if x.sealed then (0, s) else s.record ⟨2, l, 0, []⟩ := by
        unfold SSt.seal
        rw [if_pos hL, if_neg (by rw [hdn]; simp), Int.toNat_natCast, hx0]
      cases h7 : x.sealed with
      | true =>
        have HX := hide (HS.out 0 (by rw [hse, if_pos h7]))
        rw [h7] at hlY hf2
        clear h hfew HS hl1 hl2 hdn hl3 hse h7 hx0
        generalize s.seal (l : Int) = R at *
        go_enter Tryz.func16, Tryz.ntmps16
        go_wp2_with (first
          | (go_at_call 47; refine hm.mono ?_; rintro e w' ⟨rfl, hw'⟩; obtain rfl := hw'.symm)
          | (go_at_call 48; refine (isLoglet_any _ _).mono ?_; rintro e w' ⟨rfl, hw'⟩; obtain rfl := hw'.symm; rw [hL])
          | (go_at_call 51; refine hpw.mono ?_; rintro e w' ⟨rfl, hw'⟩; obtain rfl := hw'.symm))
        all_goals go_ret
        all_goals exact HX.out
      | false =>
        have hrec : s.seal (l : Int) = s.record ⟨2, l, 0, []⟩ := by rw [hse, if_neg (by rw [h7]; simp)]
        rw [hrec]
        rw [h7] at hlY hf2
        have HRc : Hid (Calls Tryz.prog 53 #[.pointer (some ⟨S, 0, none⟩), .agg #[.int .i64 2, .int .i64 (l : Int), .int .i64 0, .slice none 0 0]] w fun e w3 => ∃ z : Int, e = .returned (.int .i64 z) ∧ Hid (SPost w FD G S D X Y (s.record ⟨2, l, 0, []⟩) e w3)) := by
          refine (record_any h 2 ⟨2, l, 0, []⟩ rfl (by show 2 < 256; omega) hl3 (by show 0 < 281474976710656; omega) none 0 0 ⟨rfl, fun _ => ⟨rfl, rfl⟩, fun x hx => (by cases hx), Or.inl rfl⟩ (by omega) (fun g hg => (by cases hg)) hfew (takes2 l hl3)).mono ?_
          intro e w3 hr
          exact ⟨_, hr.1, hr.post (Below.refl _ _) (fun g hg => (by cases hg))⟩
        clear h hfew HS hl1 hl2 hdn hl3 hse h7 hx0 hrec
        generalize s.record ⟨2, l, 0, []⟩ = R at *
        go_enter Tryz.func16, Tryz.ntmps16
        go_wp2_with (first
          | (go_at_call 47; refine hm.mono ?_; rintro e w' ⟨rfl, hw'⟩; obtain rfl := hw'.symm)
          | (go_at_call 48; refine (isLoglet_any _ _).mono ?_; rintro e w' ⟨rfl, hw'⟩; obtain rfl := hw'.symm; rw [hL])
          | (go_at_call 51; refine hpw.mono ?_; rintro e w' ⟨rfl, hw'⟩; obtain rfl := hw'.symm)
          | (go_at_call 53; (with_reducible_and_instances (refine HRc.out.mono ?_)); rintro e w3 ⟨z, rfl, hX3⟩))
        all_goals go_ret
        all_goals exact hX3.out
end Go.Proofs.YtikomnbhmmjfnaaGreat
