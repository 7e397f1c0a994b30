/- The steps of Sticky (by gensteps.py). -/
import Derived.Test.YtakpdhmfbgfblaaAHad
namespace Go.Proofs.Ytakpdhmfbgfblaa
open Go.RowKit Go.Sort
variable {w w' : World}

theorem ArgK.take {α : Type} {K : Kd α} {l : List α} {ad : Option Addr} {m c : Nat} (h : ArgK K w l ad m c) (k : Nat) (hk : k ≤ m) : ArgK K w (l.take k) ad k c := by
  have hl := h.len
  refine ⟨by rw [List.length_take]; omega, fun e => by have := h.nil e; omega, by have := h.cap; omega, h.room, ?_⟩
  rcases h.row with h1 | ⟨b, off, e, hb, hc⟩
  · exact Or.inl (by rw [h1]; simp)
  · refine Or.inr ⟨b, off, e, hb, fun i hi cc hcc => ?_⟩
    rw [List.length_take] at hi
    rw [hc i (by omega) cc hcc, List.getD_eq_getElem?_getD, List.getD_eq_getElem?_getD, List.getElem?_take, if_pos (by omega)]
/-- What a name had, by the map. -/
structure HadI (hb M : Nat) (N : Nat) (H : List ShA) (P : List (List Int)) (W : World) : Prop where
  box : Blk W hb #[.map (some M)] TMp
  map : MapF W 9 M 1000 (hdF H)
  len : H.length = P.length
  rows : ∀ i, i < H.length → OwnK kZ W N (H.getD i sh0).2.v (P.getD i [])
/-- Where all that lies. -/
structure HadO (p : Pl) (hb M N0 N : Nat) (H : List ShA) : Prop where
  names : (H.map (·.1)).Nodup
  lh : hb < N
  lM : M < N
  hD : hb ≠ p.D ∧ hb ≠ p.b ∧ hb ≠ p.rb
  MD : M ≠ p.D ∧ M ≠ p.b ∧ M ≠ p.rb
  rows : ∀ i g, i < H.length → (H.getD i sh0).2.v.ownBlock = some g → g < N ∧ g ≠ p.D ∧ g ≠ p.b ∧ g ≠ p.rb
structure SInv (p : Pl) (base hb M N0 : Nat) (H : List ShA) (P : List (List Int)) (s : Dk) (W : World) : Prop where
  r : RInv p base s W
  h : HadI hb M N0 H P W
  lb : p.b < W.heap.size
theorem HadI.chg {p : Pl} {hb M N0 N : Nat} {H : List ShA} {P : List (List Int)} {W W' : World} {G : List Nat} (h : HadI hb M N0 H P W) (ho : HadO p hb M N0 N H) (hc : Chg G W W') (hG : ∀ g ∈ G, N ≤ g ∨ g = p.D ∨ g = p.b ∨ g = p.rb) : HadI hb M N0 H P W' := by
  have hn : ∀ k, k < N → k ≠ p.D → k ≠ p.b → k ≠ p.rb → k ∉ G := fun k h1 h2 h3 h4 hm => by rcases hG k hm with h | h | h | h; omega; exact h2 h; exact h3 h; exact h4 h
  refine ⟨h.box.chg hc (hn hb ho.lh ho.hD.1 ho.hD.2.1 ho.hD.2.2), h.map.keep (hc.block _ h.map.lt (hn M ho.lM ho.MD.1 ho.MD.2.1 ho.MD.2.2)), h.len, fun i hi => ?_⟩
  exact (h.rows i hi).chg hc (fun g hg => by obtain ⟨a, b, c, d⟩ := ho.rows i g hi hg; exact hn g a b c d)
theorem HadI.later {hb M N0 : Nat} {H : List ShA} {P : List (List Int)} {W W' : World} (h : HadI hb M N0 H P W) (hb' : Below W.heap.size W W') : HadI hb M N0 H P W' :=
  ⟨h.box.later hb', h.map.keep (hb'.block _ h.map.lt), h.len, fun i hi => (h.rows i hi).later hb'⟩
theorem SInv.keep {p : Pl} {base hb M N0 N : Nat} {H : List ShA} {P : List (List Int)} {s : Dk} {W W' : World} {G : List Nat} (h : SInv p base hb M N0 H P s W) (hp : p.ok N) (ho : HadO p hb M N0 N H) (hc : Chg G W W') (hG : ∀ g ∈ G, N ≤ g) : SInv p base hb M N0 H P s W' :=
  ⟨h.r.keep hp hc hG, h.h.chg ho hc (fun g hg => Or.inl (hG g hg)), Nat.lt_of_lt_of_le h.lb hc.size⟩
theorem SInv.later {p : Pl} {base hb M N0 : Nat} {H : List ShA} {P : List (List Int)} {s : Dk} {W W' : World} (h : SInv p base hb M N0 H P s W) (hb' : Below W.heap.size W W') : SInv p base hb M N0 H P s W' := ⟨h.r.later hb', h.h.later hb', Nat.lt_of_lt_of_le h.lb hb'.size⟩
theorem lstd_look : ∀ (H : List ShA) (P : List (List Int)) (nm : Nm), H.length = P.length → nm ∈ H.map (·.1) → ∃ i, i < H.length ∧ (H.getD i sh0).1 = nm ∧ lstd (H.map (·.1)) P nm = P.getD i []
  | [], _, _, _, hm => by simp at hm
  | _ :: _, [], _, hl, _ => by simp at hl
  | x :: H, q :: P, nm, hl, hm => by
    by_cases e : x.1 = nm
    · refine ⟨0, by simp, e, ?_⟩
      show (if x.1 = nm then q else _) = q
      rw [if_pos e]
    · have hm2 : nm ∈ H.map (·.1) := by rw [List.map_cons] at hm; rcases List.mem_cons.1 hm with h | h; exact absurd h.symm e; exact h
      obtain ⟨i, h1, h2, h3⟩ := lstd_look H P nm (by simpa using hl) hm2
      refine ⟨i + 1, by simp; exact h1, by simpa using h2, ?_⟩
      show (if x.1 = nm then q else lstd (H.map (·.1)) P nm) = _
      rw [if_neg e, h3]
      simp
theorem lstd_none : ∀ (ns : List Nm) (P : List (List Int)) (nm : Nm), nm ∉ ns → lstd ns P nm = []
  | [], _, _, _ => by unfold lstd; rfl
  | _ :: _, [], _, _ => by unfold lstd; rfl
  | n :: ns, q :: P, nm, h => by
    show (if n = nm then q else lstd ns P nm) = []
    rw [if_neg (fun e => h (by rw [e]; simp)), lstd_none ns P nm (fun hm => h (List.mem_cons_of_mem _ hm))]
/-- What had[name] is. -/
theorem HadI.look {p : Pl} {hb M N0 N : Nat} {H : List ShA} {P : List (List Int)} {W : World} (h : HadI hb M N0 H P W) (ho : HadO p hb M N0 N H) (nm : Nm) (hn : nm.length ≤ 64) :
    ∃ s : Sl, (Instr.lookup TMp (.map (some M)) (.string (nmS nm)) false).run Try.prog W = .ok s.v W ∧ OwnK kZ W N0 s.v (lstd (H.map (·.1)) P nm) ∧ ∀ g, s.v.ownBlock = some g → g ≠ p.D ∧ g ≠ p.b ∧ g ≠ p.rb := by
  have hlk := h.map.look keyN Try.underlying45 (zeroM W) (keyOf_n nm (by unfold maxLen; omega))
  by_cases hm : nm ∈ H.map (·.1)
  · obtain ⟨i, h1, h2, h3⟩ := lstd_look H P nm h.len hm
    refine ⟨(H.getD i sh0).2, ?_, by rw [h3]; exact h.rows i h1, fun g hg => (ho.rows i g h1 hg).2⟩
    have hl := hdF_look H ho.names i h1
    rw [h2] at hl
    rw [hlk, hl]
    rfl
  · refine ⟨sl0, ?_, by rw [lstd_none _ _ _ hm]; exact OwnK.nil (K := kZ) W N0, fun g hg => by cases hg⟩
    have hl : hdF H (.string nm) = none := fold_other H _ nm hm
    rw [hlk, hl]
    rfl
/-- The pick of wanted cards by a step. -/
def pickD (ws : List Int) (s : Dk) : List Int × Dk := (risZ (pickN s.1 ws).2, ((pickN s.1 ws).1, s.2))
theorem pickD_len (ws : List Int) (s : Dk) : (pickD ws s).1.length ≤ s.1.length := by show (risZ _).length ≤ _; rw [risZ_len]; have := pickN_len s.1 ws; omega
theorem pick_inv {p : Pl} {base hb M N0 N : Nat} {H : List ShA} {P : List (List Int)} {s : Dk} {W : World} (h : SInv p base hb M N0 H P s W) (hp : p.ok N) (ho : HadO p hb M N0 N H) {ws : List Int} {ad : Option Addr} {m c : Nat} (ha : ArgK kZ W ws ad m c) (hn : ws ≠ [] → ∀ b' off, ad = some ⟨b', off, none⟩ → b' ≠ p.D ∧ b' ≠ p.b) :
    Calls Try.prog 18 #[.pointer (some ⟨p.D, 0, none⟩), .slice ad m c] W fun e W' => ∃ v, e = .returned v ∧ OwnK kZ W' W.heap.size v (pickD ws s).1 ∧ SInv p base hb M N0 H P (pickD ws s).2 W' ∧ Chg p.F W W' := by
  refine (pick_any h.r.dk h.lb h.r.rise (by have := h.r.len; omega) ha hn).mono ?_
  rintro e W' ⟨v, rfl, hO, hd, hc⟩
  refine ⟨v, rfl, hO, ⟨h.r.deck hp hc hd (pickN_rise _ _ h.r.rise) (by have := pickN_len s.1 ws; have := h.r.len; omega), h.h.chg ho hc (fun g hg => by simp at hg; rcases hg with h | h; exact Or.inr (Or.inl h); exact Or.inr (Or.inr (Or.inl h))), Nat.lt_of_lt_of_le h.lb hc.size⟩, hc.mono (by intro k hk; simp at hk; rcases hk with rfl | rfl <;> simp [Pl.F])⟩
theorem drawS_inv {p : Pl} {base hb M N0 N : Nat} {H : List ShA} {P : List (List Int)} {s : Dk} {W : World} (h : SInv p base hb M N0 H P s W) (hp : p.ok N) (ho : HadO p hb M N0 N H) (n : Int) :
    Calls Try.prog 21 #[.pointer (some ⟨p.D, 0, none⟩), .int .i64 n] W fun e W' => ∃ v, e = .returned v ∧ OwnK kZ W' W.heap.size v (drawN n s).1 ∧ SInv p base hb M N0 H P (drawN n s).2 W' ∧ Chg p.F W W' := by
  refine (draw_inv h.r hp n).mono ?_
  rintro e W' ⟨v, rfl, hO, hI, hc⟩
  exact ⟨v, rfl, hO, ⟨hI, h.h.chg ho hc (fun g hg => by simp [Pl.F] at hg; exact Or.inr hg), Nat.lt_of_lt_of_le h.lb hc.size⟩, hc⟩
/-- The four steps of Sticky. -/
def fKeep (base : Nat) (ns : List Nm) (P : List (List Int)) : Stp Dk := fun s nm _ => pickD ((lstd ns P nm).take base) s
def fOne (base : Nat) (ns : List Nm) (P : List (List Int)) : Stp Dk := fun s nm _ => if (lstd ns P nm).length ≤ base ∨ s.2 = 0 then ([], s) else pickD (((lstd ns P nm).drop base).take 1) (s.1, s.2 - 1)
def fFill (base : Nat) : Stp Dk := fun s _ m => drawN ((base : Int) - (m : Int)) s
def fLast (base : Nat) : Stp Dk := fun s _ m => drawN ((base : Int) + 1 - (m : Int)) s
theorem enters_s1 : ∀ args w, (callFunc 17 args).run Try.prog w = .ok (.enter 17 args) w := fun _ _ => by kernel_rfl
theorem enters_s2 : ∀ args w, (callFunc 19 args).run Try.prog w = .ok (.enter 19 args) w := fun _ _ => by kernel_rfl
theorem enters_s3 : ∀ args w, (callFunc 20 args).run Try.prog w = .ok (.enter 20 args) w := fun _ _ => by kernel_rfl
theorem enters_s4 : ∀ args w, (callFunc 22 args).run Try.prog w = .ok (.enter 22 args) w := fun _ _ => by kernel_rfl
section
variable (p : Pl) (base hb M N0 N : Nat) (H : List ShA) (P : List (List Int)) (hp : p.ok N) (ho : HadO p hb M N0 N H) (hbs : base ≤ 1048576)
include hp ho hbs
set_option maxHeartbeats 1000000 in
theorem step3 : StepL (fFill base) 20 #[.pointer (some ⟨p.fb, 0, none⟩), .pointer (some ⟨p.bb, 0, none⟩)] p.F (SInv p base hb M N0 H P) := by
  refine ⟨enters_s3, fun s W nm ad m c h _ hm => ⟨Nat.le_trans (drawN_len _ _) (by have := h.r.len; omega), ?_⟩⟩
  obtain ⟨W1, hW1⟩ : ∃ W1, W.alloc (.cells #[.string (nmS nm), .slice ad m c] 35) = W1 := ⟨_, rfl⟩
  have hb1 : Below W.heap.size W W1 := by rw [← hW1]; exact (Below.refl _ _).alloc (Nat.le_refl _) _
  have hx1 : Blk W1 W.heap.size #[.string (nmS nm), .slice ad m c] 35 := by rw [← hW1]; exact heap_alloc_new W _
  have h1 := h.later hb1
  have c0 := h1.r.free.cell 0
  have c1 := h1.r.bas.cell 0
  have c2 := hx1.cell 1
  simp only [List.getElem?_toArray, List.getElem?_cons_zero, List.getElem?_cons_succ] at c0 c1 c2
  have HB1 := hid hb1
  have HV : Hid (fFill base s nm m = drawN ((base : Int) - (m : Int)) s) := rfl
  have HD := hid (drawS_inv h1 hp ho ((base : Int) - (m : Int)))
  rw [HV.out]
  show Calls Try.prog 20 #[.agg #[.string (nmS nm), .slice ad m c], .pointer (some ⟨p.fb, 0, none⟩), .pointer (some ⟨p.bb, 0, none⟩)] W _
  clear h h1 hb1 hx1 HV
  generalize nmS nm = ns at *
  go_enter Try.func20, Try.ntmps20
  go_wp2_with (go_at_call 21; (with_reducible_and_instances (refine HD.out.mono ?_)); rintro e W2 ⟨v, rfl, hO, hI, hc⟩; have HO := hid hO; have HI := hid hI; have HC := hid hc; clear hO hI hc)
  go_ret
  exact ⟨v, rfl, HO.out.mono HB1.out.size, HI.out, (Chg.of HB1.out).trans HC.out (fun k hk => Or.inl hk)⟩
set_option maxHeartbeats 1000000 in
theorem step4 : StepL (fLast base) 22 #[.pointer (some ⟨p.fb, 0, none⟩), .pointer (some ⟨p.bb, 0, none⟩)] p.F (SInv p base hb M N0 H P) := by
  refine ⟨enters_s4, fun s W nm ad m c h _ hm => ⟨Nat.le_trans (drawN_len _ _) (by have := h.r.len; omega), ?_⟩⟩
  obtain ⟨W1, hW1⟩ : ∃ W1, W.alloc (.cells #[.string (nmS nm), .slice ad m c] 35) = W1 := ⟨_, rfl⟩
  have hb1 : Below W.heap.size W W1 := by rw [← hW1]; exact (Below.refl _ _).alloc (Nat.le_refl _) _
  have hx1 : Blk W1 W.heap.size #[.string (nmS nm), .slice ad m c] 35 := by rw [← hW1]; exact heap_alloc_new W _
  have h1 := h.later hb1
  have c0 := h1.r.free.cell 0
  have c1 := h1.r.bas.cell 0
  have c2 := hx1.cell 1
  simp only [List.getElem?_toArray, List.getElem?_cons_zero, List.getElem?_cons_succ] at c0 c1 c2
  have HB1 := hid hb1
  have HV : Hid (fLast base s nm m = drawN ((base : Int) + 1 - (m : Int)) s) := rfl
  have HD := hid (drawS_inv h1 hp ho ((base : Int) + 1 - (m : Int)))
  rw [HV.out]
  show Calls Try.prog 22 #[.agg #[.string (nmS nm), .slice ad m c], .pointer (some ⟨p.fb, 0, none⟩), .pointer (some ⟨p.bb, 0, none⟩)] W _
  clear h h1 hb1 hx1 HV
  generalize nmS nm = ns at *
  go_enter Try.func22, Try.ntmps22
  go_wp2_with (go_at_call 21; (with_reducible_and_instances (refine HD.out.mono ?_)); rintro e W2 ⟨v, rfl, hO, hI, hc⟩; have HO := hid hO; have HI := hid hI; have HC := hid hc; clear hO hI hc)
  go_ret
  exact ⟨v, rfl, HO.out.mono HB1.out.size, HI.out, (Chg.of HB1.out).trans HC.out (fun k hk => Or.inl hk)⟩
omit hbs in
set_option maxHeartbeats 2000000 in
theorem step1 : StepL (fKeep base (H.map (·.1)) P) 17 #[.pointer (some ⟨hb, 0, none⟩), .pointer (some ⟨p.fb, 0, none⟩), .pointer (some ⟨p.bb, 0, none⟩)] p.F (SInv p base hb M N0 H P) := by
  refine ⟨enters_s1, fun s W nm ad m c h hn hm => ⟨Nat.le_trans (pickD_len _ _) (by have := h.r.len; omega), ?_⟩⟩
  obtain ⟨W1, hW1⟩ : ∃ W1, W.alloc (.cells #[.string (nmS nm), .slice ad m c] 35) = W1 := ⟨_, rfl⟩
  have hb1 : Below W.heap.size W W1 := by rw [← hW1]; exact (Below.refl _ _).alloc (Nat.le_refl _) _
  have hx1 : Blk W1 W.heap.size #[.string (nmS nm), .slice ad m c] 35 := by rw [← hW1]; exact heap_alloc_new W _
  have h1 := h.later hb1
  have c0 := h1.r.free.cell 0
  have c1 := h1.r.bas.cell 0
  have c2 := hx1.cell 0
  have c3 := h1.h.box.cell 0
  simp only [List.getElem?_toArray, List.getElem?_cons_zero] at c0 c1 c2 c3
  have HB1 := hid hb1
  obtain ⟨mine, hmine⟩ : ∃ mine, lstd (H.map (·.1)) P nm = mine := ⟨_, rfl⟩
  have HV : Hid (fKeep base (H.map (·.1)) P s nm m = pickD (mine.take base) s) := by rw [← hmine]; exact rfl
  rw [HV.out]
  obtain ⟨⟨sa, sm, sc⟩, hlk, hO, hbk⟩ := h1.h.look ho nm hn
  rw [hmine] at hO
  obtain ⟨ad0, c0', e0, hA⟩ := hO.form kZ_ok.tofit
  obtain ⟨rfl, hsm, rfl⟩ : sa = ad0 ∧ sm = mine.length ∧ sc = c0' := by unfold Sl.v at e0; injection e0 with e1 e2 e3; exact ⟨e1, e2, e3⟩
  unfold Sl.v at hlk
  obtain ⟨k, hk⟩ : ∃ k, k = min base mine.length := ⟨_, rfl⟩
  have htk : mine.take k = mine.take base := by rw [hk]; apply List.ext_getElem?; intro i; simp only [List.getElem?_take]; by_cases h2 : i < mine.length; (by_cases h3 : i < base; rw [if_pos (by omega), if_pos h3]; rw [if_neg (by omega), if_neg h3]); (rw [List.getElem?_eq_none (by omega)]; simp)
  have hki : min (base : Int) (sm : Int) = (k : Int) := by omega
  have hks : k ≤ sm := by omega
  have hkc : k ≤ sc := by have := hA.cap; omega
  have hcm : sc ≤ 9223372036854775807 := by have := hA.room; unfold maxLen at this; omega
  have hT := hA.take k (by omega)
  rw [htk] at hT
  have hown : ∀ b' off, sa = some ⟨b', off, none⟩ → b' ≠ p.D ∧ b' ≠ p.b := fun b' off e => by
    have hf : (Value.slice sa sm sc).ownBlock = some b' := by
      rcases hO.2 with ⟨e2, -⟩ | ⟨g, cap, cur, e2, -⟩
      · unfold Sl.v at e2; rw [e] at e2; cases e2
      · unfold Sl.v at e2; rw [e] at e2; cases e2; rw [e]; rfl
    exact ⟨(hbk b' hf).1, (hbk b' hf).2.1⟩
  have hgg : sa = none ∧ sm = 0 ∧ sc = 0 ∨ ∃ g, sa = some ⟨g, 0, none⟩ := by
    rcases hO.2 with ⟨e2, -⟩ | ⟨g, cap, cur, e2, -⟩
    · unfold Sl.v at e2; cases e2; exact Or.inl ⟨rfl, rfl, rfl⟩
    · unfold Sl.v at e2; cases e2; exact Or.inr ⟨g, rfl⟩
  have hdr : Below W1.heap.size W1 W1.drew := (Below.refl _ _).drew
  have HPk : Hid _ := hid (pick_inv (h1.later hdr) hp ho (W := W1.drew) (hT.later hdr) (fun _ => hown))
  have HS : Hid (W1.drew.cell? ⟨p.fb, 0, none⟩ = some (.pointer (some ⟨p.D, 0, none⟩)) ∧ W1.drew.cell? ⟨p.bb, 0, none⟩ = some (.int .i64 (base : Int))) := ⟨c0, c1⟩
  show Calls Try.prog 17 #[.agg #[.string (nmS nm), .slice ad m c], .pointer (some ⟨hb, 0, none⟩), .pointer (some ⟨p.fb, 0, none⟩), .pointer (some ⟨p.bb, 0, none⟩)] W _
  clear h h1 hb1 hx1 HV hO hA hT hown hdr hbk e0 hmine htk hk hn hsm
  generalize nmS nm = ns at *
  rcases hgg with ⟨rfl, rfl, rfl⟩ | ⟨g, rfl⟩
  · obtain rfl : k = 0 := by omega
    have hki0 : min (base : Int) 0 = 0 := by omega
    clear hki hks hkc
    go_enter Try.func17, Try.ntmps17
    go_wp2_with fail
    refine wp_region_held_drew (S := fun W => W.cell? ⟨p.fb, 0, none⟩ = some (.pointer (some ⟨p.D, 0, none⟩)) ∧ W.cell? ⟨p.bb, 0, none⟩ = some (.int .i64 (base : Int))) (by kernel_rfl) (HS.out) (fun hHeld => ?_)
    refine wpAnyH_take (i := 0) (oi := { dst := some 11, op := Op.load 43 (Operand.tmp 2), type := 43, pos := "assign.go:48", after := #[], guard := none }) (v := ?_) rfl (by kernel_rfl) (by kernel_rfl) (by kernel_rfl) (fun _ _ _ h => h) (Or.inl ⟨by rfl, ?_⟩) hHeld ?_
    rotate_left
    · intro w hSw; (try dsimp only at hSw); go_simp; try with_reducible rfl
    try simp only [Act.put, List.setIfInBounds_toArray, List.set_cons_zero, List.set_cons_succ]
    refine wpAnyH_take (i := 1) (oi := { dst := some 12, op := Op.move (Operand.tmp 6), type := 33, pos := "assign.go:48", after := #[], guard := none }) (v := ?_) rfl (by kernel_rfl) (by kernel_rfl) (by kernel_rfl) (fun _ _ _ h => h) (Or.inl ⟨by rfl, ?_⟩) hHeld ?_
    rotate_left
    · intro w hSw; (try dsimp only at hSw); go_simp; try with_reducible rfl
    try simp only [Act.put, List.setIfInBounds_toArray, List.set_cons_zero, List.set_cons_succ]
    refine wpAnyH_take (i := 2) (oi := { dst := some 13, op := Op.load 3 (Operand.tmp 3), type := 3, pos := "assign.go:48", after := #[], guard := none }) (v := ?_) rfl (by kernel_rfl) (by kernel_rfl) (by kernel_rfl) (fun _ _ _ h => h) (Or.inl ⟨by rfl, ?_⟩) hHeld ?_
    rotate_left
    · intro w hSw; (try dsimp only at hSw); go_simp; try with_reducible rfl
    try simp only [Act.put, List.setIfInBounds_toArray, List.set_cons_zero, List.set_cons_succ]
    refine wpAnyH_take (i := 3) (oi := { dst := some 14, op := Op.move (Operand.tmp 6), type := 33, pos := "assign.go:48", after := #[], guard := none }) (v := ?_) rfl (by kernel_rfl) (by kernel_rfl) (by kernel_rfl) (fun _ _ _ h => h) (Or.inl ⟨by rfl, ?_⟩) hHeld ?_
    rotate_left
    · intro w hSw; (try dsimp only at hSw); go_simp; try with_reducible rfl
    try simp only [Act.put, List.setIfInBounds_toArray, List.set_cons_zero, List.set_cons_succ]
    refine wpAnyH_take (i := 4) (oi := { dst := some 15, op := Op.call { callee := Callee.builtin Builtin.len, args := #[Operand.tmp 14], argTypes := #[33] }, type := 3, pos := "assign.go:48", after := #[{ on := 3, ground := Ground.data }], guard := none }) (v := ?_) rfl (by kernel_rfl) (by kernel_rfl) (by kernel_rfl) (fun _ _ _ h => h) (Or.inl ⟨by rfl, ?_⟩) hHeld ?_
    rotate_left
    · intro w hSw; (try dsimp only at hSw); go_simp; try with_reducible rfl
    try simp only [Act.put, List.setIfInBounds_toArray, List.set_cons_zero, List.set_cons_succ]
    refine wpAnyH_take (i := 5) (oi := { dst := some 16, op := Op.call { callee := Callee.builtin Builtin.min, args := #[Operand.tmp 13, Operand.tmp 15], argTypes := #[3, 3] }, type := 3, pos := "assign.go:48", after := #[{ on := 2, ground := Ground.data }, { on := 4, ground := Ground.data }], guard := none }) (v := ?_) rfl (by kernel_rfl) (by kernel_rfl) (by kernel_rfl) (fun _ _ _ h => h) (Or.inl ⟨by rfl, ?_⟩) hHeld ?_
    rotate_left
    · intro w hSw; (try dsimp only at hSw); go_simp; try with_reducible rfl
    try simp only [Act.put, List.setIfInBounds_toArray, List.set_cons_zero, List.set_cons_succ]
    refine wpAnyH_take (i := 6) (oi := { dst := some 17, op := Op.slice 33 (Operand.tmp 12) none (some (Operand.tmp 16)) none, type := 33, pos := "assign.go:48", after := #[{ on := 1, ground := Ground.data }, { on := 5, ground := Ground.data }], guard := none }) (v := ?_) rfl (by kernel_rfl) (by kernel_rfl) (by kernel_rfl) (fun _ _ _ h => h) (Or.inl ⟨by rfl, ?_⟩) hHeld ?_
    rotate_left
    · intro w hSw; (try dsimp only at hSw); go_simp; try with_reducible rfl
    try simp only [Act.put, List.setIfInBounds_toArray, List.set_cons_zero, List.set_cons_succ]
    refine wpAnyH_ready (rs := [7]) (by kernel_rfl) (by simp) ?_
    refine AllReadyH.cons rfl (fun K hK => ?_) (AllReadyH.nil)
    go_simp
    go_wp2_with (go_at_call 18; (with_reducible_and_instances (refine HPk.out.mono ?_)); rintro e W2 ⟨v, rfl, hO2, hI2, hC2⟩; have HO2 := hid hO2; have HI2 := hid hI2; have HC2 := hid hC2; have hS2 := And.intro (Blk.cell hI2.r.free 0) (Blk.cell hI2.r.bas 0); simp only [List.getElem?_toArray, List.getElem?_cons_zero] at hS2; clear hO2 hI2 hC2)
    refine hK.out _ _ (hS2) (fun hHeld => ?_)
    clear hK K
    try simp only [Act.put, List.setIfInBounds_toArray, List.set_cons_zero, List.set_cons_succ]
    refine wpAnyH_take (i := 8) (oi := { dst := some 5, op := Op.assign (Operand.tmp 18), type := 33, pos := "assign.go:48", after := #[{ on := 7, ground := Ground.data }, { on := 7, ground := Ground.chain }, { on := 0, ground := Ground.phase }, { on := 1, ground := Ground.phase }, { on := 2, ground := Ground.phase }, { on := 3, ground := Ground.phase }, { on := 4, ground := Ground.phase }, { on := 5, ground := Ground.phase }, { on := 6, ground := Ground.phase }, { on := 7, ground := Ground.phase }], guard := none }) (v := ?_) rfl (by kernel_rfl) (by kernel_rfl) (by kernel_rfl) (fun _ _ _ h => h) (Or.inl ⟨by rfl, ?_⟩) hHeld ?_
    rotate_left
    · intro w hSw; (try dsimp only at hSw); go_simp; try with_reducible rfl
    try simp only [Act.put, List.setIfInBounds_toArray, List.set_cons_zero, List.set_cons_succ]
    refine wpAnyH_done (by kernel_rfl) ?_ _
    go_wp2_with fail
    go_ret
    exact ⟨v, rfl, HO2.out.mono HB1.out.size, HI2.out, (Chg.of HB1.out).trans (show Chg p.F W1 W2 from ⟨HC2.out.os, HC2.out.tape, HC2.out.output, HC2.out.size, HC2.out.block⟩) (fun k hk => Or.inl hk)⟩
  · go_enter Try.func17, Try.ntmps17
    go_wp2_with fail
    refine wp_region_held_drew (S := fun W => W.cell? ⟨p.fb, 0, none⟩ = some (.pointer (some ⟨p.D, 0, none⟩)) ∧ W.cell? ⟨p.bb, 0, none⟩ = some (.int .i64 (base : Int))) (by kernel_rfl) (HS.out) (fun hHeld => ?_)
    refine wpAnyH_take (i := 0) (oi := { dst := some 11, op := Op.load 43 (Operand.tmp 2), type := 43, pos := "assign.go:48", after := #[], guard := none }) (v := ?_) rfl (by kernel_rfl) (by kernel_rfl) (by kernel_rfl) (fun _ _ _ h => h) (Or.inl ⟨by rfl, ?_⟩) hHeld ?_
    rotate_left
    · intro w hSw; (try dsimp only at hSw); go_simp; try with_reducible rfl
    try simp only [Act.put, List.setIfInBounds_toArray, List.set_cons_zero, List.set_cons_succ]
    refine wpAnyH_take (i := 1) (oi := { dst := some 12, op := Op.move (Operand.tmp 6), type := 33, pos := "assign.go:48", after := #[], guard := none }) (v := ?_) rfl (by kernel_rfl) (by kernel_rfl) (by kernel_rfl) (fun _ _ _ h => h) (Or.inl ⟨by rfl, ?_⟩) hHeld ?_
    rotate_left
    · intro w hSw; (try dsimp only at hSw); go_simp; try with_reducible rfl
    try simp only [Act.put, List.setIfInBounds_toArray, List.set_cons_zero, List.set_cons_succ]
    refine wpAnyH_take (i := 2) (oi := { dst := some 13, op := Op.load 3 (Operand.tmp 3), type := 3, pos := "assign.go:48", after := #[], guard := none }) (v := ?_) rfl (by kernel_rfl) (by kernel_rfl) (by kernel_rfl) (fun _ _ _ h => h) (Or.inl ⟨by rfl, ?_⟩) hHeld ?_
    rotate_left
    · intro w hSw; (try dsimp only at hSw); go_simp; try with_reducible rfl
    try simp only [Act.put, List.setIfInBounds_toArray, List.set_cons_zero, List.set_cons_succ]
    refine wpAnyH_take (i := 3) (oi := { dst := some 14, op := Op.move (Operand.tmp 6), type := 33, pos := "assign.go:48", after := #[], guard := none }) (v := ?_) rfl (by kernel_rfl) (by kernel_rfl) (by kernel_rfl) (fun _ _ _ h => h) (Or.inl ⟨by rfl, ?_⟩) hHeld ?_
    rotate_left
    · intro w hSw; (try dsimp only at hSw); go_simp; try with_reducible rfl
    try simp only [Act.put, List.setIfInBounds_toArray, List.set_cons_zero, List.set_cons_succ]
    refine wpAnyH_take (i := 4) (oi := { dst := some 15, op := Op.call { callee := Callee.builtin Builtin.len, args := #[Operand.tmp 14], argTypes := #[33] }, type := 3, pos := "assign.go:48", after := #[{ on := 3, ground := Ground.data }], guard := none }) (v := ?_) rfl (by kernel_rfl) (by kernel_rfl) (by kernel_rfl) (fun _ _ _ h => h) (Or.inl ⟨by rfl, ?_⟩) hHeld ?_
    rotate_left
    · intro w hSw; (try dsimp only at hSw); go_simp; try with_reducible rfl
    try simp only [Act.put, List.setIfInBounds_toArray, List.set_cons_zero, List.set_cons_succ]
    refine wpAnyH_take (i := 5) (oi := { dst := some 16, op := Op.call { callee := Callee.builtin Builtin.min, args := #[Operand.tmp 13, Operand.tmp 15], argTypes := #[3, 3] }, type := 3, pos := "assign.go:48", after := #[{ on := 2, ground := Ground.data }, { on := 4, ground := Ground.data }], guard := none }) (v := ?_) rfl (by kernel_rfl) (by kernel_rfl) (by kernel_rfl) (fun _ _ _ h => h) (Or.inl ⟨by rfl, ?_⟩) hHeld ?_
    rotate_left
    · intro w hSw; (try dsimp only at hSw); go_simp; try with_reducible rfl
    try simp only [Act.put, List.setIfInBounds_toArray, List.set_cons_zero, List.set_cons_succ]
    refine wpAnyH_take (i := 6) (oi := { dst := some 17, op := Op.slice 33 (Operand.tmp 12) none (some (Operand.tmp 16)) none, type := 33, pos := "assign.go:48", after := #[{ on := 1, ground := Ground.data }, { on := 5, ground := Ground.data }], guard := none }) (v := ?_) rfl (by kernel_rfl) (by kernel_rfl) (by kernel_rfl) (fun _ _ _ h => h) (Or.inl ⟨by rfl, ?_⟩) hHeld ?_
    rotate_left
    · intro w hSw; (try dsimp only at hSw); go_simp; try with_reducible rfl
    try simp only [Act.put, List.setIfInBounds_toArray, List.set_cons_zero, List.set_cons_succ]
    refine wpAnyH_ready (rs := [7]) (by kernel_rfl) (by simp) ?_
    refine AllReadyH.cons rfl (fun K hK => ?_) (AllReadyH.nil)
    go_simp
    go_wp2_with (go_at_call 18; (with_reducible_and_instances (refine HPk.out.mono ?_)); rintro e W2 ⟨v, rfl, hO2, hI2, hC2⟩; have HO2 := hid hO2; have HI2 := hid hI2; have HC2 := hid hC2; have hS2 := And.intro (Blk.cell hI2.r.free 0) (Blk.cell hI2.r.bas 0); simp only [List.getElem?_toArray, List.getElem?_cons_zero] at hS2; clear hO2 hI2 hC2)
    refine hK.out _ _ (hS2) (fun hHeld => ?_)
    clear hK K
    try simp only [Act.put, List.setIfInBounds_toArray, List.set_cons_zero, List.set_cons_succ]
    refine wpAnyH_take (i := 8) (oi := { dst := some 5, op := Op.assign (Operand.tmp 18), type := 33, pos := "assign.go:48", after := #[{ on := 7, ground := Ground.data }, { on := 7, ground := Ground.chain }, { on := 0, ground := Ground.phase }, { on := 1, ground := Ground.phase }, { on := 2, ground := Ground.phase }, { on := 3, ground := Ground.phase }, { on := 4, ground := Ground.phase }, { on := 5, ground := Ground.phase }, { on := 6, ground := Ground.phase }, { on := 7, ground := Ground.phase }], guard := none }) (v := ?_) rfl (by kernel_rfl) (by kernel_rfl) (by kernel_rfl) (fun _ _ _ h => h) (Or.inl ⟨by rfl, ?_⟩) hHeld ?_
    rotate_left
    · intro w hSw; (try dsimp only at hSw); go_simp; try with_reducible rfl
    try simp only [Act.put, List.setIfInBounds_toArray, List.set_cons_zero, List.set_cons_succ]
    refine wpAnyH_done (by kernel_rfl) ?_ _
    go_wp2_with fail
    go_ret
    exact ⟨v, rfl, HO2.out.mono HB1.out.size, HI2.out, (Chg.of HB1.out).trans (show Chg p.F W1 W2 from ⟨HC2.out.os, HC2.out.tape, HC2.out.output, HC2.out.size, HC2.out.block⟩) (fun k hk => Or.inl hk)⟩
set_option maxHeartbeats 2000000 in
theorem step2 : StepL (fOne base (H.map (·.1)) P) 19 #[.pointer (some ⟨hb, 0, none⟩), .pointer (some ⟨p.bb, 0, none⟩), .pointer (some ⟨p.rb, 0, none⟩), .pointer (some ⟨p.fb, 0, none⟩)] p.F (SInv p base hb M N0 H P) := by
  refine ⟨enters_s2, fun s W nm ad m c h hn hm => ⟨?_, ?_⟩⟩
  · unfold fOne
    have := h.r.len
    split
    · show 0 ≤ _; omega
    · exact Nat.le_trans (pickD_len _ _) (by show s.1.length ≤ _; omega)
  obtain ⟨W1, hW1⟩ : ∃ W1, W.alloc (.cells #[.string (nmS nm), .slice ad m c] 35) = W1 := ⟨_, rfl⟩
  have hb1 : Below W.heap.size W W1 := by rw [← hW1]; exact (Below.refl _ _).alloc (Nat.le_refl _) _
  have hx1 : Blk W1 W.heap.size #[.string (nmS nm), .slice ad m c] 35 := by rw [← hW1]; exact heap_alloc_new W _
  have h1 := h.later hb1
  obtain ⟨dk, r⟩ := s
  have c0 := h1.r.rst.cell 0
  have c1 := h1.r.bas.cell 0
  have c2 := hx1.cell 0
  have c3 := h1.h.box.cell 0
  have f0 := h1.r.rst.free 0
  simp only [List.getElem?_toArray, List.getElem?_cons_zero] at c0 c1 c2 c3
  have HB1 := hid hb1
  obtain ⟨mine, hmine⟩ : ∃ mine, lstd (H.map (·.1)) P nm = mine := ⟨_, rfl⟩
  obtain ⟨⟨sa, sm, sc⟩, hlk, hO, hbk⟩ := h1.h.look ho nm hn
  rw [hmine] at hO
  obtain ⟨ad0, c0', e0, hA⟩ := hO.form kZ_ok.tofit
  obtain ⟨rfl, hsm, rfl⟩ : sa = ad0 ∧ sm = mine.length ∧ sc = c0' := by unfold Sl.v at e0; injection e0 with e1 e2 e3; exact ⟨e1, e2, e3⟩
  unfold Sl.v at hlk
  have hcap := hA.cap
  have hcm : sc ≤ 9223372036854775807 := by have := hA.room; unfold maxLen at this; omega
  have hrs : r ≤ 1048576 := h.r.small
  show Calls Try.prog 19 #[.agg #[.string (nmS nm), .slice ad m c], .pointer (some ⟨hb, 0, none⟩), .pointer (some ⟨p.bb, 0, none⟩), .pointer (some ⟨p.rb, 0, none⟩), .pointer (some ⟨p.fb, 0, none⟩)] W _
  by_cases hle : mine.length ≤ base
  · have HV : Hid (fOne base (H.map (·.1)) P (dk, r) nm m = ([], (dk, r))) := by unfold fOne; rw [hmine, if_pos (Or.inl hle)]; exact rfl
    rw [HV.out]
    have HI1 := hid h1
    have hsb : sm ≤ base := by omega
    clear h h1 hb1 hx1 HV hO hA hbk e0 hmine hn hsm hle
    generalize nmS nm = ns at *
    go_enter Try.func19, Try.ntmps19
    go_wp2_with fail
    go_ret
    exact ⟨_, rfl, OwnK.nil (K := kZ) W1 _, HI1.out, Chg.of HB1.out⟩
  · have hsb : decide (sm ≤ base) = false := by simp; omega
    by_cases h0 : r = 0
    · have HV : Hid (fOne base (H.map (·.1)) P (dk, r) nm m = ([], (dk, r))) := by unfold fOne; rw [hmine, if_pos (Or.inr h0)]; exact rfl
      rw [HV.out]
      subst h0
      have HI1 := hid h1
      clear h h1 hb1 hx1 HV hO hA hbk e0 hmine hn hsm hle
      generalize nmS nm = ns at *
      go_enter Try.func19, Try.ntmps19
      go_wp2_with fail
      go_ret
      exact ⟨_, rfl, OwnK.nil (K := kZ) W1 _, HI1.out, Chg.of HB1.out⟩
    · have HV : Hid (fOne base (H.map (·.1)) P (dk, r) nm m = pickD ((mine.drop base).take 1) (dk, r - 1)) := by unfold fOne; rw [hmine, if_neg (by rintro (h | h); exact hle h; exact h0 h)]; exact rfl
      rw [HV.out]
      have hz : ((r : Int) == 0) = false := by simp; omega
      obtain ⟨h2, hc2⟩ := h1.r.rest hp (r := r - 1) (by omega)
      rw [show ((r - 1 : Nat) : Int) = (r : Int) - 1 by omega] at h2 hc2
      obtain ⟨g, rfl⟩ : ∃ g, sa = some ⟨g, 0, none⟩ := by
        rcases hO.2 with ⟨e2, -⟩ | ⟨g, cap, cur, e2, -⟩
        · unfold Sl.v at e2; cases e2; exact absurd (by rw [← hsm]; exact Nat.zero_le _) hle
        · unfold Sl.v at e2; cases e2; exact ⟨g, rfl⟩
      obtain ⟨W2, hW2⟩ : ∃ W2, W1.setCell ⟨p.rb, 0, none⟩ (.int .i64 ((r : Int) - 1)) = W2 := ⟨_, rfl⟩
      rw [hW2] at h2 hc2
      have hgb := hbk g rfl
      have hgr : g ≠ p.rb := hgb.2.2
      have hS2 : SInv p base hb M N0 H P (dk, r - 1) W2 := ⟨h2, h1.h.chg ho hc2 (fun g hg => by simp [Pl.F] at hg; exact Or.inr hg), Nat.lt_of_lt_of_le h1.lb hc2.size⟩
      have hA2 : ArgK kZ W2 mine (some ⟨g, 0, none⟩) sm sc := by
        rw [hsm]
        refine hA.chg hc2 (fun _ b' off e => ?_)
        cases e
        simp [Pl.F]
        exact ⟨hgb.1, hgb.2.1, hgr⟩
      have hT : ArgK kZ W2 ((mine.drop base).take 1) (some ⟨g, base, none⟩) 1 (sc - base) := by
        refine ⟨by rw [List.length_take, List.length_drop]; omega, (fun e => by cases e), by omega, by have := hA.room; omega, ?_⟩
        obtain ⟨b2, off2, e2, hb2, hcl⟩ := hA2.cells (by omega)
        cases e2
        refine Or.inr ⟨g, base, rfl, hb2, fun i hi cc hcc => ?_⟩
        rw [List.length_take, List.length_drop] at hi
        obtain rfl : i = 0 := by omega
        have h3 := hcl base (by omega) cc hcc
        rw [Nat.zero_add, show base * kZ.sz = base from Nat.mul_one _] at h3
        rw [Nat.zero_mul, Nat.add_zero, h3, List.getD_eq_getElem?_getD, List.getD_eq_getElem?_getD, List.getElem?_take, if_pos (by omega), List.getElem?_drop, Nat.add_zero]
      have hdr : Below W2.heap.size W2 W2.drew := (Below.refl _ _).drew
      have HPk : Hid _ := hid (pick_inv (h := hS2.later hdr) hp ho (W := W2.drew) (hT.later hdr) (fun _ b' off e => by cases e; exact ⟨hgb.1, hgb.2.1⟩))
      have c4 := h2.free.cell 0
      have c5 := h2.bas.cell 0
      simp only [List.getElem?_toArray, List.getElem?_cons_zero] at c4 c5
      have HS : Hid (W2.drew.cell? ⟨p.fb, 0, none⟩ = some (.pointer (some ⟨p.D, 0, none⟩)) ∧ W2.drew.cell? ⟨p.bb, 0, none⟩ = some (.int .i64 (base : Int))) := ⟨c4, c5⟩
      have HC0 := hid hc2
      have hbc : base + 1 ≤ sc := by omega
      have hbn : sc ≠ base := by omega
      have hw : IntKind.i64.wrap ((base : Int) + 1) = (base : Int) + 1 := by rw [IntKind.wrap_i64]; omega
      have hge : (0 : Int) ≤ (base : Int) + 1 ∧ (base : Int) + 1 ≤ (sc : Int) := by omega
      have hle1 : (base : Int) ≤ (base : Int) + 1 := by omega
      have htn : ((base : Int) + 1).toNat = base + 1 := by omega
      have hsub : base + 1 - base = 1 := by omega
      clear h h1 h2 hb1 hx1 HV hO hA hA2 hT hbk e0 hmine hn hsm hle hS2 hdr hgb hgr h0 hc2
      generalize nmS nm = ns at *
      go_enter Try.func19, Try.ntmps19
      go_wp2_with fail
      refine wp_region_held_drew (S := fun W => W.cell? ⟨p.fb, 0, none⟩ = some (.pointer (some ⟨p.D, 0, none⟩)) ∧ W.cell? ⟨p.bb, 0, none⟩ = some (.int .i64 (base : Int))) (by kernel_rfl) (HS.out) (fun hHeld => ?_)
      refine wpAnyH_take (i := 0) (oi := { dst := some 22, op := Op.load 43 (Operand.tmp 4), type := 43, pos := "assign.go:56", after := #[], guard := none }) (v := ?_) rfl (by kernel_rfl) (by kernel_rfl) (by kernel_rfl) (fun _ _ _ h => h) (Or.inl ⟨by rfl, ?_⟩) hHeld ?_
      rotate_left
      · intro w hSw; (try dsimp only at hSw); go_simp; try with_reducible rfl
      try simp only [Act.put, List.setIfInBounds_toArray, List.set_cons_zero, List.set_cons_succ]
      refine wpAnyH_take (i := 1) (oi := { dst := some 23, op := Op.move (Operand.tmp 7), type := 33, pos := "assign.go:56", after := #[], guard := none }) (v := ?_) rfl (by kernel_rfl) (by kernel_rfl) (by kernel_rfl) (fun _ _ _ h => h) (Or.inl ⟨by rfl, ?_⟩) hHeld ?_
      rotate_left
      · intro w hSw; (try dsimp only at hSw); go_simp; try with_reducible rfl
      try simp only [Act.put, List.setIfInBounds_toArray, List.set_cons_zero, List.set_cons_succ]
      refine wpAnyH_take (i := 2) (oi := { dst := some 24, op := Op.load 3 (Operand.tmp 2), type := 3, pos := "assign.go:56", after := #[], guard := none }) (v := ?_) rfl (by kernel_rfl) (by kernel_rfl) (by kernel_rfl) (fun _ _ _ h => h) (Or.inl ⟨by rfl, ?_⟩) hHeld ?_
      rotate_left
      · intro w hSw; (try dsimp only at hSw); go_simp; try with_reducible rfl
      try simp only [Act.put, List.setIfInBounds_toArray, List.set_cons_zero, List.set_cons_succ]
      refine wpAnyH_take (i := 3) (oi := { dst := some 25, op := Op.load 3 (Operand.tmp 2), type := 3, pos := "assign.go:56", after := #[], guard := none }) (v := ?_) rfl (by kernel_rfl) (by kernel_rfl) (by kernel_rfl) (fun _ _ _ h => h) (Or.inl ⟨by rfl, ?_⟩) hHeld ?_
      rotate_left
      · intro w hSw; (try dsimp only at hSw); go_simp; try with_reducible rfl
      try simp only [Act.put, List.setIfInBounds_toArray, List.set_cons_zero, List.set_cons_succ]
      refine wpAnyH_take (i := 4) (oi := { dst := some 26, op := Op.binOp BinOp.add 3 (Operand.tmp 25) (Operand.const (Value.int IntKind.i64 1)) 3, type := 3, pos := "assign.go:56", after := #[{ on := 3, ground := Ground.data }], guard := none }) (v := ?_) rfl (by kernel_rfl) (by kernel_rfl) (by kernel_rfl) (fun _ _ _ h => h) (Or.inl ⟨by rfl, ?_⟩) hHeld ?_
      rotate_left
      · intro w hSw; (try dsimp only at hSw); go_simp; try with_reducible rfl
      try simp only [Act.put, List.setIfInBounds_toArray, List.set_cons_zero, List.set_cons_succ]
      refine wpAnyH_take (i := 5) (oi := { dst := some 27, op := Op.slice 33 (Operand.tmp 23) (some (Operand.tmp 24)) (some (Operand.tmp 26)) none, type := 33, pos := "assign.go:56", after := #[{ on := 1, ground := Ground.data }, { on := 2, ground := Ground.data }, { on := 4, ground := Ground.data }], guard := none }) (v := ?_) rfl (by kernel_rfl) (by kernel_rfl) (by kernel_rfl) (fun _ _ _ h => h) (Or.inl ⟨by rfl, ?_⟩) hHeld ?_
      rotate_left
      · intro w hSw; (try dsimp only at hSw); go_simp; try with_reducible rfl
      try simp only [Act.put, List.setIfInBounds_toArray, List.set_cons_zero, List.set_cons_succ]
      refine wpAnyH_ready (rs := [6]) (by kernel_rfl) (by simp) ?_
      refine AllReadyH.cons rfl (fun K hK => ?_) (AllReadyH.nil)
      go_simp
      go_wp2_with (go_at_call 18; (with_reducible_and_instances (refine HPk.out.mono ?_)); rintro e W3 ⟨v, rfl, hO2, hI2, hC2⟩; have HO2 := hid hO2; have HI2 := hid hI2; have HC2 := hid hC2; have hS2 := And.intro (Blk.cell hI2.r.free 0) (Blk.cell hI2.r.bas 0); simp only [List.getElem?_toArray, List.getElem?_cons_zero] at hS2; clear hO2 hI2 hC2)
      refine hK.out _ _ (hS2) (fun hHeld => ?_)
      clear hK K
      try simp only [Act.put, List.setIfInBounds_toArray, List.set_cons_zero, List.set_cons_succ]
      refine wpAnyH_take (i := 7) (oi := { dst := some 6, op := Op.assign (Operand.tmp 28), type := 33, pos := "assign.go:56", after := #[{ on := 6, ground := Ground.data }, { on := 6, ground := Ground.chain }, { on := 0, ground := Ground.phase }, { on := 1, ground := Ground.phase }, { on := 2, ground := Ground.phase }, { on := 3, ground := Ground.phase }, { on := 4, ground := Ground.phase }, { on := 5, ground := Ground.phase }, { on := 6, ground := Ground.phase }], guard := none }) (v := ?_) rfl (by kernel_rfl) (by kernel_rfl) (by kernel_rfl) (fun _ _ _ h => h) (Or.inl ⟨by rfl, ?_⟩) hHeld ?_
      rotate_left
      · intro w hSw; (try dsimp only at hSw); go_simp; try with_reducible rfl
      try simp only [Act.put, List.setIfInBounds_toArray, List.set_cons_zero, List.set_cons_succ]
      refine wpAnyH_done (by kernel_rfl) ?_ _
      go_wp2_with fail
      go_ret
      exact ⟨v, rfl, HO2.out.mono (by have := HB1.out.size; have := HC0.out.size; show W.heap.size ≤ W2.heap.size; omega), HI2.out, ((Chg.of HB1.out).trans HC0.out (fun k hk => Or.inl hk)).trans (show Chg p.F W2 W3 from ⟨HC2.out.os, HC2.out.tape, HC2.out.output, HC2.out.size, HC2.out.block⟩) (fun k hk => Or.inl hk)⟩
end
end Go.Proofs.Ytakpdhmfbgfblaa
