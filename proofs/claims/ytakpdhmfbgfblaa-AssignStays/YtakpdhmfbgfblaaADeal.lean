/- deal of package assign, over any steps (by gendeal.py). -/
import Derived.Test.YtakpdhmfbgfblaaAShs
import Derived.Test.YtakpdhmfbgfblaaARise
import Derived.Shelf.Abstract
namespace Go.Proofs.Ytakpdhmfbgfblaa
open Go.RowKit Go.Sort Go.Shelf
variable {w w' : World} {σ : Type}

/-- What a step gives a member that has so many. -/
abbrev Stp (σ : Type) := σ → Nm → Nat → List Int × σ
/-- A step taken with member i. -/
def stp (f : Stp σ) (names : List Nm) (sp : σ × List (List Int)) (i : Nat) : σ × List (List Int) :=
  ((f sp.1 (names.getD i []) (sp.2.getD i []).length).2, sp.2.set i (sp.2.getD i [] ++ (f sp.1 (names.getD i []) (sp.2.getD i []).length).1))
/-- .. with the first i members. -/
def allS (f : Stp σ) (names : List Nm) (sp : σ × List (List Int)) (i : Nat) : σ × List (List Int) := (List.range i).foldl (stp f names) sp
/-- The first j steps, each with all members. -/
def stepsN (fs : Nat → Stp σ) (names : List Nm) (sp : σ × List (List Int)) : Nat → σ × List (List Int)
  | 0 => sp
  | j + 1 => allS (fs j) names (stepsN fs names sp j) names.length
theorem allS_succ (f : Stp σ) (names : List Nm) (sp : σ × List (List Int)) (i : Nat) : allS f names sp (i + 1) = stp f names (allS f names sp i) i := by simp [allS, List.range_succ, List.foldl_append]
/-- The word of a step: a function value that gives what f says, and changes nothing but F; Inv is what it wants of the world. -/
def StepL (f : Stp σ) (gf : Nat) (lb : Array Value) (F : List Nat) (Inv : σ → World → Prop) : Prop :=
  (∀ args w, (callFunc gf args).run Try.prog w = .ok (.enter gf args) w) ∧
  ∀ s W nm ad m c, Inv s W → nm.length ≤ 64 → m ≤ 65536 → (f s nm m).1.length ≤ 1024 ∧ Calls Try.prog gf (#[.agg #[.string (nmS nm), .slice ad m c]] ++ lb) W fun e W' => ∃ v, e = .returned v ∧ OwnK kZ W' W.heap.size v (f s nm m).1 ∧ Inv (f s nm m).2 W' ∧ Chg F W W'
theorem sh_row (Y : World) (s : ByteArray) (d : Nm) (h : nmS d = s) : RowK kSh (Y.alloc (.cells #[.string s, .slice none 0 0] 35)) (some ⟨Y.heap.size, 0, none⟩) [(d, sl0)] := by
  subst h
  refine Or.inr ⟨_, 0, rfl, by simp, fun i hi c hc => ?_⟩
  obtain rfl : i = 0 := by simp at hi; omega
  have hb : Blk (Y.alloc (.cells #[.string (nmS d), .slice none 0 0] 35)) Y.heap.size _ _ := heap_alloc_new Y _
  have : kSh.sz = 2 := rfl
  rw [Nat.zero_mul, Nat.zero_add, hb.cell c]
  rcases (show c = 0 ∨ c = 1 by omega) with rfl | rfl <;> rfl
theorem own_chg {N : Nat} {v : Value} {W W' : World} (hg : W.grownBy W' v.ownBlock) (hb : ∀ g, v.ownBlock = some g → N ≤ g) : ∃ G : List Nat, (∀ k ∈ G, N ≤ k) ∧ Chg G W W' := by
  cases ho : v.ownBlock with
  | none => exact ⟨[], by simp, grown_chg hg _ (fun g hg => by rw [ho] at hg; cases hg)⟩
  | some g => exact ⟨[g], fun k hk => by simp at hk; subst hk; exact hb k ho, grown_chg hg _ (fun g' hg' => by rw [ho] at hg'; cases hg'; simp)⟩
/-- The first i sorted. -/
def srtN (P : List (List Int)) (i : Nat) : List (List Int) := (P.take i).map risZ ++ P.drop i
theorem srtN_zero (P : List (List Int)) : srtN P 0 = P := by simp [srtN]
theorem srtN_all (P : List (List Int)) : srtN P P.length = P.map risZ := by simp [srtN]
theorem srtN_at (P : List (List Int)) (i : Nat) (hi : i < P.length) : (srtN P i).getD i [] = P.getD i [] ∧ (srtN P i).set i (risZ (P.getD i [])) = srtN P (i + 1) := by
  have hl : ((P.take i).map risZ).length = i := by rw [List.length_map, List.length_take]; omega
  have hd : P.drop i = P.getD i [] :: P.drop (i + 1) := by rw [List.drop_eq_getElem_cons hi, List.getD_eq_getElem?_getD, List.getElem?_eq_getElem hi]; rfl
  unfold srtN
  constructor
  · rw [List.getD_eq_getElem?_getD, List.getElem?_append_right (by omega), hl, Nat.sub_self, hd]; rfl
  · rw [List.set_append_right _ _ (by omega), hl, Nat.sub_self, hd, take_snoc_any P [] i hi, List.map_append]
    simp
/-- What the box of a loop's share says. -/
def SBx (B : Nat) (ns : ByteArray) (xa : Option Addr) (xm xc : Nat) (W : World) : Prop := W.cell? ⟨B, 0, none⟩ = some (.string ns) ∧ W.cell? ⟨B, 1, none⟩ = some (.slice xa xm xc)
theorem deal_step {W1 W2 W3 : World} {N N1 B g n c i : Nat} {ns : ByteArray} {xa : Option Addr} {xm xc : Nat} {A : List ShA} {P : List (List Int)} {s' : Sl} {got : List Int} {F : List Nat} (hF : ∀ g ∈ F, g < N) (hN : N ≤ N1) (hB : Blk W1 B #[.string ns, .slice xa xm xc] 35) (hBN : N1 ≤ B) (hg : g < B)
    (h : Shs W1 N1 (.slice (some ⟨g, 0, none⟩) n c) A P) (hi : i < A.length) (hx : (A.getD i sh0).2 = ⟨xa, xm, xc⟩) (hxB : ∀ b, (Value.slice xa xm xc).ownBlock = some b → b < B)
    (hC : Chg F W1 W2) (hO : OwnK kZ W3 N1 s'.v (P.getD i [] ++ got)) (hG : W2.grownBy W3 (Value.slice xa xm xc).ownBlock) (hL : ∀ b, s'.v.ownBlock = some b → (Value.slice xa xm xc).ownBlock = some b ∨ W2.heap.size ≤ b) :
    (W3.cell? ⟨g, i * 2 + 1, none⟩ = some (.slice xa xm xc) ∧ W3.frozen? ⟨g, i * 2 + 1, none⟩ = false) ∧ SBx B ns xa xm xc W3 ∧ SBx B ns xa xm xc (W3.setCell ⟨g, i * 2 + 1, none⟩ s'.v) ∧
    Shs (W3.setCell ⟨g, i * 2 + 1, none⟩ s'.v) N1 (.slice (some ⟨g, 0, none⟩) n c) (A.set i ((A.getD i sh0).1, s')) (P.set i (P.getD i [] ++ got)) ∧ (∃ G : List Nat, (∀ k ∈ G, N ≤ k) ∧ Chg G W2 (W3.setCell ⟨g, i * 2 + 1, none⟩ s'.v)) := by
  have h2 : Shs W2 N1 (.slice (some ⟨g, 0, none⟩) n c) A P := h.chg hC (fun g hg => Nat.lt_of_lt_of_le (hF g hg) hN)
  have hv : (A.getD i sh0).2.v = .slice xa xm xc := by rw [hx]; rfl
  have hst := h2.step hi hO (by rw [hv]; exact hG) (by rw [hv]; exact hL)
  have hown : ∀ b, (Value.slice xa xm xc).ownBlock = some b → N1 ≤ b := fun b hb => ((h2.part i hi).block b (by rw [hv]; exact hb)).1
  have hB2 : Blk W2 B #[.string ns, .slice xa xm xc] 35 := hB.chg hC (fun hm => by have := hF B hm; omega)
  have hB3 : Blk W3 B #[.string ns, .slice xa xm xc] 35 := (hG.block B hB2.lt (fun e => by have := hxB B e.symm; omega)).trans hB2
  have hB4 := hB3.other (show B ≠ g by omega) (i * 2 + 1) s'.v
  obtain ⟨G, hGk, hGc⟩ := own_chg (N := N1) hG hown
  have hgN := (h2.row.block g rfl).1
  have hrow3 : OwnK kSh W3 N1 (.slice (some ⟨g, 0, none⟩) n c) A := h2.row.keep (fun g' hg' => hG.block g' (h2.row.block g' hg').2.1 (fun e => by
    have e1 : g = g' := by cases hg'; rfl
    subst e1
    obtain ⟨cur, hgc⟩ := (h2.row.block g hg').2.2
    obtain ⟨cur2, hc2⟩ := ((h2.part i hi).block g (by rw [hv]; exact e.symm)).2.2
    have hgc' : W2.heap[g]? = some (.cells cur 35 (0, 0)) := hgc
    rw [hgc'] at hc2
    simp at hc2))
  obtain ⟨ad', c', e', hA'⟩ := hrow3.form kSh_ok.tofit
  obtain ⟨rfl, -, -⟩ : (some ⟨g, 0, none⟩ : Option Addr) = ad' ∧ n = A.length ∧ c = c' := by injection e' with e1 e2 e3; exact ⟨e1, e2, e3⟩
  obtain ⟨b0, off0, eb, -, hcell⟩ := hA'.cells (by omega)
  cases eb
  have hcc := hcell i hi 1 (by decide)
  rw [Nat.zero_add] at hcc
  have e2 : A.getD i kSh.z = A.getD i sh0 := rfl
  rw [e2] at hcc
  have e3 : (kSh.V (A.getD i sh0))[1]? = some (.slice xa xm xc) := by show some ((A.getD i sh0).2.v) = _; rw [hv]
  obtain ⟨cur3, hg3⟩ := (hrow3.block g rfl).2.2
  refine ⟨⟨hcc.trans e3, Blk.free (cs := cur3) (T := 35) hg3 _⟩, ⟨hB3.cell 0, hB3.cell 1⟩, ⟨hB4.cell 0, hB4.cell 1⟩, hst, ⟨g :: G, fun k hk => by rcases List.mem_cons.1 hk with rfl | hk; omega; have := hGk k hk; omega, (hGc.mono (by intro k hk; exact List.mem_cons_of_mem _ hk)).set (Or.inl (by simp)) _ _⟩⟩
set_option maxRecDepth 20000 in
set_option maxHeartbeats 4000000 in
theorem deal_any {ad : Option Addr} {m c : Nat} {l : List Nm} (h : ArgK kS w l ad m c) (hm : m ≤ 1000) (hnl : ∀ s ∈ l, s.length ≤ 64) (fs : Nat → Stp σ) (k : Nat) (hk : k ≤ 8) (gfs : Nat → Nat) (lbs : Nat → Array Value) (bs : Nat) (hbs : bs < w.heap.size) (hcs : ∀ j, j < k → w.cell? ⟨bs, j, none⟩ = some (.func (.func (gfs j)) #[] (lbs j)))
    (F : List Nat) (hF : ∀ g ∈ F, g < w.heap.size) (hbF : bs ∉ F) (Inv : σ → World → Prop) (hInv : ∀ s W W' G, Inv s W → Chg G W W' → (∀ g ∈ G, w.heap.size ≤ g) → Inv s W') (hst : ∀ j, j < k → StepL (fs j) (gfs j) (lbs j) F Inv) (s0 : σ) (h0 : Inv s0 w) :
    Calls Try.prog 23 #[.slice ad m c, .slice (some ⟨bs, 0, none⟩) k k] w fun e w' => ∃ v A, e = .returned v ∧ Shs w' w.heap.size v A ((stepsN fs (risN l) (s0, List.replicate m []) k).2.map risZ) ∧ A.map (·.1) = risN l ∧ Inv (stepsN fs (risN l) (s0, List.replicate m []) k).1 w' ∧ Chg F w w' := by
  have HRi := hid (rising_any h (by omega))
  have HLr : Hid ((risN l).length = m) := by rw [risN_len]; exact h.len
  have HSn : Hid (∀ i, i < m → ((risN l).getD i []).length ≤ 64) := fun i hi => by
    have hmem : (risN l).getD i [] ∈ risN l := by rw [List.getD_eq_getElem?_getD, List.getElem?_eq_getElem (by rw [HLr.out]; exact hi)]; exact List.getElem_mem _
    exact hnl _ ((risN_perm l).mem_iff.1 hmem)
  have HCs := hid hcs
  have HF := hid hF
  have HInv0 := hid hInv
  have HSt := hid hst
  have HI0 := hid h0
  clear h hcs hF hInv hst h0 hnl
  generalize risN l = s at *
  go_enter Try.func23, Try.ntmps23
  go_wp2_with (go_at_call 30; (with_reducible_and_instances (refine HRi.out.mono ?_)); rintro e w1 ⟨vn, rfl, hOn, hBn⟩; obtain ⟨na, nc, rfl, hAn⟩ := hOn.form kS_ok.tofit; rw [HLr.out] at hAn ⊢; have HAn := hid hAn; have HBn := hid hBn; have HN1 : Hid (w.heap.size ≤ w1.heap.size) := hBn.size; clear hOn hBn hAn)
  obtain ⟨N1, hN1⟩ : ∃ N1, w1.heap.size = N1 := ⟨_, rfl⟩
  rw [hN1] at HN1
  go_loopw [5, 17] (fun v i wr => ∃ (j : Nat) (a : Option Addr) (cc : Nat), j ≤ m ∧ i = .int .i64 (j : Int) ∧ v = .slice a j cc ∧ Hid (OwnK kSh wr N1 (.slice a j cc) ((s.take j).map (fun nm => (nm, sl0)))) ∧ Hid (Below N1 w1 wr)) (fun _ i _ => m - (intOf i).toNat)
  case atStart => exact ⟨0, none, 0, by omega, rfl, rfl, (by rw [List.take_zero]; exact OwnK.nil (K := kSh) w1 _), Below.refl _ _⟩
  case round =>
    obtain ⟨j, a, cc, hj, rfl, rfl, HO, HB⟩ := hrel
    by_cases hlt : j < m
    · have hA := HAn.out.later (by rw [hN1]; exact HB.out)
      obtain ⟨b, off, rfl, hs, hc⟩ := hA.cells (by omega)
      have r0 : wr.cell? ⟨b, off + j, none⟩ = some (.string (nmS (s.getD j []))) := by have := hc j hlt 0 (by decide); rw [Nat.mul_one, Nat.add_zero] at this; exact this
      have HTk := hid (take_snoc_any s [] j (by rw [HLr.out]; exact hlt))
      have HLk : Hid (((s.take j).map (fun nm => ((nm, sl0) : ShA))).length = j) := by rw [List.length_map, List.length_take, HLr.out]; show min j m = j; omega
      have hszr : N1 ≤ wr.heap.size := by have := HB.out.size; omega
      clear hc hs hA
      obtain ⟨d, hd⟩ : ∃ d, s.getD j [] = d := ⟨_, rfl⟩
      rw [hd] at r0 HTk
      obtain ⟨ds, hds⟩ : ∃ ds, nmS d = ds := ⟨_, rfl⟩
      rw [hds] at r0
      have HRw := hid (sh_row wr ds d hds)
      have HO2 := hid (HO.out.later ((Below.refl _ wr).alloc (Nat.le_refl _) (.cells #[.string ds, .slice none 0 0] 35)))
      clear hd hds
      go_wp2_with (first
        | (at_builtin; refine app_kd kSh_ok rfl _ _ rfl N1 (.slice a j cc) ((s.take j).map (fun nm => (nm, sl0))) rfl HO2.out (some ⟨wr.heap.size, 0, none⟩) 1 1 [(d, sl0)] rfl rfl (fun e => by cases e) HRw.out (by rw [HLk.out]; unfold maxLen; omega) (by rw [HLk.out]; show (j + 1) * 40 ≤ _; omega) (by simp; omega) ?_; intro v3 w3 hown3 hg3; obtain ⟨a3, c3, e3, -⟩ := hown3.form kSh_ok.tofit; rw [List.length_append, HLk.out] at e3; subst e3; have HO3 := hid hown3; have HB3 := hid ((HB.out.alloc (by omega) _).grown hg3 (by simp; omega) (fun k hk => (HO2.out.block k hk).1)); clear hown3 hg3))
      refine ⟨⟨j + 1, a3, c3, by omega, by go_num, rfl, (by rw [HTk.out, List.map_append]; exact HO3.out), HB3⟩, by simp [intOf]; omega⟩
    · obtain rfl : m = j := by omega
      clear hlt HAn
      obtain ⟨w2, rfl⟩ : ∃ x, x = wr := ⟨wr, rfl⟩
      have hBw : Below w.heap.size w w2 := HBn.out.trans (HB.out.mono HN1.out)
      have HSh0 : Hid (Shs w2 N1 (.slice a m cc) (s.map (fun nm => (nm, sl0))) (List.replicate m [])) := by
        have h := HO.out
        rw [List.take_of_length_le (by rw [HLr.out]; exact Nat.le_refl _)] at h
        have h2 := Shs.new h
        rw [HLr.out] at h2
        exact h2
      have HI2 := hid (HInv0.out s0 w w2 [] HI0.out (Chg.of hBw) (by simp))
      have HC2 : Hid (Chg F w w2) := Chg.of hBw
      have HNm0 : Hid ((s.map (fun nm => ((nm, sl0) : ShA))).map (·.1) = s) := by rw [List.map_map]; exact List.map_id s
      have HFN : Hid (∀ g ∈ F, g < N1) := fun g hg => Nat.lt_of_lt_of_le (HF.out g hg) HN1.out
      have hN2 : N1 ≤ w2.heap.size := by have := HB.out.size; omega
      clear hBw HO HB HBn HRi HI0 hN1
      go_wp2_with fail
      go_loopw [29] (fun jv wr => ∃ (j : Nat) (A : List ShA), j ≤ k ∧ jv = .int .i64 (j : Int) ∧ N1 ≤ wr.heap.size ∧ Hid (Shs wr N1 (.slice a m cc) A (stepsN fs s (s0, List.replicate m []) j).2) ∧ Hid (A.map (·.1) = s) ∧ Hid (Inv (stepsN fs s (s0, List.replicate m []) j).1 wr) ∧ Hid (Chg F w wr) ∧ Hid (∀ q, ((stepsN fs s (s0, List.replicate m []) j).2.getD q []).length ≤ j * 1024)) (fun jv _ => k - (intOf jv).toNat)
      case atStart => exact ⟨0, _, by omega, rfl, hN2, HSh0, HNm0, HI2, HC2, (fun q => by show ((List.replicate m []).getD q []).length ≤ 0; rw [List.getD_eq_getElem?_getD, List.getElem?_replicate]; split <;> simp)⟩
      case round =>
        obtain ⟨j, A, hj, rfl, hNr, HSh, HNm, HI, HC, HPl⟩ := hrel
        clear HSh0 HI2 HC2 HNm0 hN2
        by_cases hjk : j < k
        · have c0 : wr.cell? ⟨bs, j, none⟩ = some (.func (.func (gfs j)) #[] (lbs j)) := (HC.out.cell hbs hbF).trans (HCs.out j hjk)
          have HStj := hid (HSt.out j hjk)
          have HSucc : Hid (stepsN fs s (s0, List.replicate m []) (j + 1) = allS (fs j) s (stepsN fs s (s0, List.replicate m []) j) s.length) := rfl
          obtain ⟨sp, hsp⟩ : ∃ sp, stepsN fs s (s0, List.replicate m []) j = sp := ⟨_, rfl⟩
          rw [hsp] at HSh HI HPl HSucc
          clear hsp HSt
          generalize fs j = f at *
          generalize lbs j = lb at *
          generalize hgf : gfs j = gf at *
          clear hgf
          obtain ⟨w3, rfl⟩ : ∃ x, x = wr := ⟨wr, rfl⟩
          go_wp2_with fail
          go_loopw [35] (fun iv wr => ∃ (i : Nat) (A : List ShA), i ≤ m ∧ iv = .int .i64 (i : Int) ∧ N1 ≤ wr.heap.size ∧ Hid (Shs wr N1 (.slice a m cc) A (allS f s sp i).2) ∧ Hid (A.map (·.1) = s) ∧ Hid (Inv (allS f s sp i).1 wr) ∧ Hid (Chg F w wr) ∧ Hid (∀ q, ((allS f s sp i).2.getD q []).length ≤ (j + 1) * 1024) ∧ Hid (∀ q, i ≤ q → ((allS f s sp i).2.getD q []).length ≤ j * 1024)) (fun iv _ => m - (intOf iv).toNat)
          case atStart => exact ⟨0, A, by omega, rfl, hNr, HSh, HNm, HI, HC, (fun q => Nat.le_trans (HPl.out q) (Nat.mul_le_mul_right _ (by omega))), (fun q _ => HPl.out q)⟩
          case round =>
            obtain ⟨i, A, hi, rfl, hNr, HSh, HNm, HI, HC, HPl, HPl2⟩ := hrel
            by_cases him : i < m
            · have HSuc := hid (allS_succ f s sp i)
              unfold stp at HSuc
              obtain ⟨⟨sq, P⟩, hp⟩ : ∃ p, allS f s sp i = p := ⟨_, rfl⟩
              rw [hp] at HSh HI HPl HPl2 HSuc
              dsimp only at HSh HI HPl HPl2 HSuc
              clear hp
              obtain ⟨wr3, rfl⟩ : ∃ x, x = wr := ⟨wr, rfl⟩
              have hAl : A.length = m := by have := congrArg List.length HNm.out; rw [List.length_map, HLr.out] at this; exact this
              have hiA : i < A.length := by omega
              obtain ⟨ad0, c0', e0, hArg⟩ := HSh.out.row.form kSh_ok.tofit
              obtain ⟨rfl, -, rfl⟩ : a = ad0 ∧ m = A.length ∧ cc = c0' := by injection e0 with e1 e2 e3; exact ⟨e1, e2, e3⟩
              obtain ⟨g, off0, rfl, hgl, hcell⟩ := hArg.cells (by omega)
              have hg0 : off0 = 0 := by
                rcases HSh.out.row.2 with ⟨e, -⟩ | ⟨g', cap, cur, e, -⟩
                · cases e
                · cases e; rfl
              subst hg0
              obtain ⟨x, hx⟩ : ∃ x, A.getD i sh0 = x := ⟨_, rfl⟩
              obtain ⟨nm, xa, xm, xc⟩ := x
              have r0 : wr3.cell? ⟨g, i * 2, none⟩ = some (.string (nmS nm)) := by have h := hcell i hiA 0 (by decide); rw [Nat.zero_add, Nat.add_zero, show A.getD i kSh.z = A.getD i sh0 from rfl, hx] at h; exact h
              have r1 : wr3.cell? ⟨g, i * 2 + 1, none⟩ = some (.slice xa xm xc) := by have h := hcell i hiA 1 (by decide); rw [Nat.zero_add, show A.getD i kSh.z = A.getD i sh0 from rfl, hx] at h; exact h
              have hnm : s.getD i [] = nm := by
                have h : (A.map (·.1)).getD i [] = nm := by
                  rw [List.getD_eq_getElem?_getD, List.getElem?_map, List.getElem?_eq_getElem hiA]
                  rw [List.getD_eq_getElem?_getD, List.getElem?_eq_getElem hiA] at hx
                  have hx' : A[i] = (nm, ⟨xa, xm, xc⟩) := hx
                  show A[i].1 = nm
                  rw [hx']
                rw [HNm.out] at h; exact h
              have hpt := HSh.out.part i hiA
              rw [hx] at hpt
              have hxm : xm = (P.getD i []).length := Sl.own hpt
              rw [hnm, ← hxm] at HSuc
              have HFr := hid (HStj.out.2 sq)
              obtain ⟨W1, hW1⟩ : ∃ W1, wr3.alloc (.cells #[.string (nmS nm), .slice xa xm xc] 35) = W1 := ⟨_, rfl⟩
              have hb1 : Below wr3.heap.size wr3 W1 := by rw [← hW1]; exact (Below.refl _ _).alloc (Nat.le_refl _) _
              have HX1 : Hid (Blk W1 wr3.heap.size #[.string (nmS nm), .slice xa xm xc] 35) := by rw [← hW1]; exact heap_alloc_new wr3 _
              have HSh1 := hid (HSh.out.later hb1)
              have HI1 : Hid (Inv sq W1.drew) := HInv0.out sq wr3 W1.drew [] HI.out (Chg.of hb1).drew (by simp)
              have hxl : xm ≤ 65536 := by rw [hxm]; exact Nat.le_trans (HPl.out i) (Nat.le_trans (Nat.mul_le_mul_right 1024 (show j + 1 ≤ 64 by omega)) (by decide))
              obtain ⟨hgl2, hcl⟩ := HFr.out W1.drew nm xa xm xc HI1.out (by rw [← hnm]; exact HSn.out i (by omega)) hxl
              have HCl := hid hcl
              have HCw1 : Hid (Chg F w W1) := HC.out.trans (Chg.of (F := []) hb1) (by simp)
              obtain ⟨got, hgot⟩ : ∃ got, (f sq nm xm).1 = got := ⟨_, rfl⟩
              obtain ⟨sq', hsq'⟩ : ∃ sq', (f sq nm xm).2 = sq' := ⟨_, rfl⟩
              rw [hgot, hsq'] at HCl HSuc
              rw [hgot] at hgl2
              obtain ⟨ps, hps⟩ : ∃ ps, P.getD i [] = ps := ⟨_, rfl⟩
              rw [hps] at HSuc
              have HNmi := hid hnm
              have HPll := hid hgl2
              have hpl : ps.length ≤ j * 1024 := by rw [← hps]; exact HPl2.out i (Nat.le_refl _)
              have HLn : Hid (ps.length + got.length ≤ 1048576) := by show _ ≤ _; omega
              have HPt : Hid (∀ W2, Shs W2 N1 (.slice (some ⟨g, 0, none⟩) A.length cc) A P → OwnK kZ W2 N1 (.slice xa xm xc) ps) := fun W2 h => by have h2 := h.part i hiA; rw [hx, hps] at h2; exact h2
              have HS : Hid (∀ (W : World) (G : List Nat), Chg G W1 W → (∀ g ∈ G, g < w.heap.size) → SBx wr3.heap.size (nmS nm) xa xm xc W) := fun W G hc hG => by
                have hb := HX1.out.chg hc (fun hm => by have := hG _ hm; have := HN1.out; omega)
                exact ⟨hb.cell 0, hb.cell 1⟩
              have HStep := hid (fun (W2 W3 : World) (s' : Sl) (hC : Chg F W1 W2) (hO : OwnK kZ W3 N1 s'.v (ps ++ got)) (hG : W2.grownBy W3 (Value.slice xa xm xc).ownBlock) (hL : ∀ b, s'.v.ownBlock = some b → (Value.slice xa xm xc).ownBlock = some b ∨ W2.heap.size ≤ b) =>
                deal_step (N := w.heap.size) (got := got) HF.out HN1.out HX1.out hNr hgl HSh1.out hiA (by rw [hx]) (fun b hb => (hpt.block b hb).2.1) hC (by rw [hps]; exact hO) hG hL)
              rw [hps, hx] at HStep
              have c2 := HX1.out.cell 0
              have c3 := HX1.out.cell 1
              simp only [List.getElem?_toArray, List.getElem?_cons_zero, List.getElem?_cons_succ] at c2 c3
              have eF := HStj.out.1
              have hW1s : N1 ≤ W1.heap.size := by have := hb1.size; omega
              have HiA := hid hiA
              have HX := hid hx
              have HXm := hid hxm
              clear hxm hArg hcell hpt hnm hb1 hcl hgot hsq' hps hx HFr HStj HSh HI HC HX1 HI1
              unfold SBx at HS HStep
              generalize nmS nm = ns at *
              go_wp2_with fail
              refine wp_region_held_drew (S := fun W => W.cell? ⟨wr3.heap.size, 0, none⟩ = some (.string ns) ∧ W.cell? ⟨wr3.heap.size, 1, none⟩ = some (.slice xa xm xc)) (by kernel_rfl) (HS.out _ [] (Chg.refl [] W1).drew (by simp)) (fun hHeld => ?_)
              refine wpAnyH_take (i := 0) (oi := { dst := some 40, op := Op.move (Operand.tmp 5), type := 24, pos := "deal.go:16", after := #[], guard := none }) (v := ?_) rfl (by kernel_rfl) (by kernel_rfl) (by kernel_rfl) (fun _ _ _ h => h) (Or.inl ⟨by rfl, ?_⟩) hHeld ?_
              rotate_left
              · intro w hSw; (try dsimp only at hSw); go_simp; try with_reducible rfl
              try simp only [Act.put, List.setIfInBounds_toArray, List.set_cons_zero, List.set_cons_succ]
              refine wpAnyH_take (i := 1) (oi := { dst := some 41, op := Op.move (Operand.tmp 10), type := 3, pos := "deal.go:16", after := #[], guard := none }) (v := ?_) rfl (by kernel_rfl) (by kernel_rfl) (by kernel_rfl) (fun _ _ _ h => h) (Or.inl ⟨by rfl, ?_⟩) hHeld ?_
              rotate_left
              · intro w hSw; (try dsimp only at hSw); go_simp; try with_reducible rfl
              try simp only [Act.put, List.setIfInBounds_toArray, List.set_cons_zero, List.set_cons_succ]
              refine wpAnyH_take (i := 2) (oi := { dst := some 42, op := Op.fieldAddr 35 (Operand.tmp 11) 1, type := 0, pos := "deal.go:16", after := #[], guard := none }) (v := ?_) rfl (by kernel_rfl) (by kernel_rfl) (by kernel_rfl) (fun _ _ _ h => h) (Or.inl ⟨by rfl, ?_⟩) hHeld ?_
              rotate_left
              · intro w hSw; (try dsimp only at hSw); go_simp; try with_reducible rfl
              try simp only [Act.put, List.setIfInBounds_toArray, List.set_cons_zero, List.set_cons_succ]
              refine wpAnyH_take (i := 3) (oi := { dst := some 43, op := Op.load 33 (Operand.tmp 42), type := 33, pos := "deal.go:16", after := #[{ on := 2, ground := Ground.data }], guard := none }) (v := ?_) rfl (by kernel_rfl) (by kernel_rfl) (by kernel_rfl) (fun _ _ _ h => h) (Or.inl ⟨by rfl, ?_⟩) hHeld ?_
              rotate_left
              · intro w hSw; (try dsimp only at hSw); go_simp; try with_reducible rfl
              try simp only [Act.put, List.setIfInBounds_toArray, List.set_cons_zero, List.set_cons_succ]
              refine wpAnyH_take (i := 4) (oi := { dst := some 44, op := Op.move (Operand.tmp 9), type := 74, pos := "deal.go:16", after := #[], guard := none }) (v := ?_) rfl (by kernel_rfl) (by kernel_rfl) (by kernel_rfl) (fun _ _ _ h => h) (Or.inl ⟨by rfl, ?_⟩) hHeld ?_
              rotate_left
              · intro w hSw; (try dsimp only at hSw); go_simp; try with_reducible rfl
              try simp only [Act.put, List.setIfInBounds_toArray, List.set_cons_zero, List.set_cons_succ]
              refine wpAnyH_take (i := 5) (oi := { dst := some 45, op := Op.load 35 (Operand.tmp 11), type := 35, pos := "deal.go:16", after := #[], guard := none }) (v := ?_) rfl (by kernel_rfl) (by kernel_rfl) (by kernel_rfl) (fun _ _ _ h => h) (Or.inl ⟨by rfl, ?_⟩) hHeld ?_
              rotate_left
              · intro w hSw; (try dsimp only at hSw); go_simp; try with_reducible rfl
              try simp only [Act.put, List.setIfInBounds_toArray, List.set_cons_zero, List.set_cons_succ]
              refine wpAnyH_ready (rs := [6]) (by kernel_rfl) (by simp) ?_
              refine AllReadyH.cons rfl (fun K hK => ?_) (AllReadyH.nil)
              go_simp
              go_wp2_with (go_at_fn gf; (with_reducible_and_instances (refine HCl.out.mono ?_)); rintro e W2 ⟨vg, rfl, hO2, hI2, hC2⟩; have HO2 := hid hO2; have HI2 := hid hI2; have HC2 : Hid (Chg F W1 W2) := ⟨hC2.os, hC2.tape, hC2.output, hC2.size, hC2.block⟩; clear hO2 hI2 hC2)
              have hS2 := HS.out W2 F HC2.out HF.out
              refine hK.out _ _ (hS2) (fun hHeld => ?_)
              clear hK K
              try simp only [Act.put, List.setIfInBounds_toArray, List.set_cons_zero, List.set_cons_succ]
              refine wpAnyH_ready (rs := [7]) (by kernel_rfl) (by simp) ?_
              refine AllReadyH.cons rfl (fun K hK => ?_) (AllReadyH.nil)
              have hSh2 := HSh1.out.chg HC2.out HFN.out
              refine step_app_got (by rfl) (.tmp 43) (.tmp 46) (by rfl) N1 _ (.slice xa xm xc) vg ps got (by rfl) (HPt.out W2 hSh2) (by rfl) HO2.out HLn.out (by have := HC2.out.size; omega) ?_
              intro s' W3 hs' hO3 hG3 hL3
              have HD := hid (HStep.out W2 W3 s' HC2.out hO3 hG3 hL3)
              obtain ⟨cz, fz⟩ := HD.out.1
              have hS3 := HD.out.2.1
              clear hSh2 hO3 hG3 hL3
              obtain ⟨sa, sm, sc⟩ := s'
              unfold Sl.v at HD ⊢
              refine hK.out _ _ (hS3) (fun hHeld => ?_)
              clear hK K
              refine wpAnyH_take (i := 8) (oi := { dst := some 48, op := Op.indexAddr 24 (Operand.tmp 40) (Operand.tmp 41), type := 0, pos := "deal.go:16", after := #[{ on := 0, ground := Ground.data }, { on := 1, ground := Ground.data }, { on := 0, ground := Ground.phase }, { on := 1, ground := Ground.phase }, { on := 2, ground := Ground.phase }, { on := 3, ground := Ground.phase }, { on := 4, ground := Ground.phase }, { on := 5, ground := Ground.phase }, { on := 6, ground := Ground.phase }, { on := 7, ground := Ground.phase }], guard := none }) (v := ?_) rfl (by kernel_rfl) (by kernel_rfl) (by kernel_rfl) (fun _ _ _ h => h) (Or.inl ⟨by rfl, ?_⟩) hHeld ?_
              rotate_left
              · intro w hSw; (try dsimp only at hSw); go_simp; try with_reducible rfl
              refine wpAnyH_take (i := 9) (oi := { dst := some 49, op := Op.fieldAddr 35 (Operand.tmp 48) 1, type := 0, pos := "deal.go:16", after := #[{ on := 8, ground := Ground.data }, { on := 0, ground := Ground.phase }, { on := 1, ground := Ground.phase }, { on := 2, ground := Ground.phase }, { on := 3, ground := Ground.phase }, { on := 4, ground := Ground.phase }, { on := 5, ground := Ground.phase }, { on := 6, ground := Ground.phase }, { on := 7, ground := Ground.phase }], guard := none }) (v := ?_) rfl (by kernel_rfl) (by kernel_rfl) (by kernel_rfl) (fun _ _ _ h => h) (Or.inl ⟨by rfl, ?_⟩) hHeld ?_
              rotate_left
              · intro w hSw; (try dsimp only at hSw); go_simp; try with_reducible rfl
              refine wpAnyH_ready (rs := [10]) (by kernel_rfl) (by simp) ?_
              refine AllReadyH.cons rfl (fun K hK => ?_) (AllReadyH.nil)
              go_simp
              refine hK.out _ _ (HD.out.2.2.1) (fun hHeld => ?_)
              clear hK K
              refine wpAnyH_done (by kernel_rfl) ?_ _
              go_wp2_with fail
              obtain ⟨G, hG1, hG2⟩ := HD.out.2.2.2.2
              have hsz2 := HC2.out.size
              have hsz3 : W2.heap.size ≤ (W3.setCell ⟨g, i * 2 + 1, none⟩ (.slice sa sm sc)).heap.size := hG2.size
              refine ⟨⟨i + 1, A.set i (nm, ⟨sa, sm, sc⟩), by omega, by go_num, by omega, (by rw [HSuc.out]; exact HD.out.2.2.2.1), ?_, (by rw [HSuc.out]; exact HInv0.out sq' W2 _ G HI2.out hG2 hG1), (HCw1.out.trans HC2.out (fun k hk => Or.inl hk)).trans hG2 (fun k hk => Or.inr (hG1 k hk)), ?_, ?_⟩, by simp [intOf]; omega⟩
              · show (A.set i (nm, ⟨sa, sm, sc⟩)).map (·.1) = s
                rw [List.map_set, HNm.out, ← HNmi.out, List.getD_eq_getElem?_getD, List.getElem?_eq_getElem (by rw [HLr.out]; omega)]
                exact List.set_getElem_self _
              · intro q
                rw [HSuc.out]
                show ((P.set i (ps ++ got)).getD q []).length ≤ _
                by_cases e : i = q
                · subst e
                  rw [getD_set_same _ _ _ _ (by rw [← HSh1.out.len]; exact HiA.out), List.length_append]
                  have := HPll.out
                  omega
                · rw [getD_set_other _ _ _ _ _ e]; exact HPl.out q
              · intro q hq
                rw [HSuc.out]
                show ((P.set i (ps ++ got)).getD q []).length ≤ _
                rw [getD_set_other _ _ _ _ _ (by omega)]
                exact HPl2.out q (by omega)
            · obtain rfl : m = i := by omega
              clear HStj c0
              rw [HLr.out] at HSucc
              go_wp2_with fail
              exact ⟨⟨j + 1, A, by omega, by go_num, hNr, (by rw [HSucc.out]; exact HSh), HNm, (by rw [HSucc.out]; exact HI), HC, (by rw [HSucc.out]; exact HPl)⟩, by simp [intOf]; omega⟩
        · obtain rfl : k = j := by omega
          clear HSt HCs
          obtain ⟨⟨sf, P⟩, hp⟩ : ∃ p, stepsN fs s (s0, List.replicate m []) k = p := ⟨_, rfl⟩
          rw [hp] at HSh HI HPl
          dsimp only at HSh HI HPl
          have HPe := hid hp
          clear hp
          obtain ⟨w4, rfl⟩ : ∃ x, x = wr := ⟨wr, rfl⟩
          have hAl : A.length = m := by have := congrArg List.length HNm.out; rw [List.length_map, HLr.out] at this; exact this
          have hPm : P.length = m := by rw [← HSh.out.len]; exact hAl
          have HPm := hid hPm
          have HAl := hid hAl
          clear hPm hAl
          go_wp2_with fail
          go_loopw [54] (fun iv wr => ∃ (i : Nat), i ≤ m ∧ iv = .int .i64 (i : Int) ∧ N1 ≤ wr.heap.size ∧ Hid (Shs wr N1 (.slice a m cc) A (srtN P i)) ∧ Hid (Inv sf wr) ∧ Hid (Chg F w wr)) (fun iv _ => m - (intOf iv).toNat)
          case atStart => exact ⟨0, by omega, rfl, hNr, (by rw [srtN_zero]; exact HSh), HI, HC⟩
          case round =>
            obtain ⟨i, hi, rfl, hNr, HSh, HI, HC⟩ := hrel
            by_cases him : i < m
            · obtain ⟨wr3, rfl⟩ : ∃ x, x = wr := ⟨wr, rfl⟩
              have hiA : i < A.length := by rw [HAl.out]; exact him
              obtain ⟨ad0, c0', e0, hArg⟩ := HSh.out.row.form kSh_ok.tofit
              obtain ⟨rfl, -, rfl⟩ : a = ad0 ∧ m = A.length ∧ cc = c0' := by injection e0 with e1 e2 e3; exact ⟨e1, e2, e3⟩
              obtain ⟨g, off0, rfl, hgl, hcell⟩ := hArg.cells (by omega)
              have hg0 : off0 = 0 := by
                rcases HSh.out.row.2 with ⟨e, -⟩ | ⟨g', cap, cur, e, -⟩
                · cases e
                · cases e; rfl
              subst hg0
              obtain ⟨x, hx⟩ : ∃ x, A.getD i sh0 = x := ⟨_, rfl⟩
              obtain ⟨nm, xa, xm, xc⟩ := x
              have r0 : wr3.cell? ⟨g, i * 2, none⟩ = some (.string (nmS nm)) := by have h := hcell i hiA 0 (by decide); rw [Nat.zero_add, Nat.add_zero, show A.getD i kSh.z = A.getD i sh0 from rfl, hx] at h; exact h
              have r1 : wr3.cell? ⟨g, i * 2 + 1, none⟩ = some (.slice xa xm xc) := by have h := hcell i hiA 1 (by decide); rw [Nat.zero_add, show A.getD i kSh.z = A.getD i sh0 from rfl, hx] at h; exact h
              have hpt := HSh.out.part i hiA
              obtain ⟨e1, e2⟩ := srtN_at P i (by rw [HPm.out]; exact him)
              rw [hx, e1] at hpt
              obtain ⟨W1, hW1⟩ : ∃ W1, wr3.alloc (.cells #[.string (nmS nm), .slice xa xm xc] 35) = W1 := ⟨_, rfl⟩
              have hb1 : Below wr3.heap.size wr3 W1 := by rw [← hW1]; exact (Below.refl _ _).alloc (Nat.le_refl _) _
              have HX1 : Hid (Blk W1 wr3.heap.size #[.string (nmS nm), .slice xa xm xc] 35) := by rw [← hW1]; exact heap_alloc_new wr3 _
              have HSo := hid (sortZ_own (v := .slice xa xm xc) (hpt.later hb1) (by have h1 := HPl.out i; have h2 : k * 1024 ≤ 8 * 1024 := Nat.mul_le_mul_right _ hk; omega))
              have HFin : Hid (∀ W2, OwnK kZ W2 N1 (.slice xa xm xc) (risZ (P.getD i [])) → W1.grownBy W2 (Value.slice xa xm xc).ownBlock → N1 ≤ W2.heap.size ∧ Shs W2 N1 (.slice (some ⟨g, 0, none⟩) m cc) A (srtN P (i + 1)) ∧ Inv sf W2 ∧ Chg F w W2) := fun W2 hO hg => by
                obtain ⟨G, hG1, hG2⟩ := own_chg (N := N1) hg (fun b hb => (hpt.block b hb).1)
                refine ⟨by have := hb1.size; have := hg.size; omega, ?_, HInv0.out sf wr3 W2 G HI.out ((Chg.of (F := G) hb1).trans hG2 (fun k hk => Or.inl hk)) (fun k hk => by have := hG1 k hk; have := HN1.out; omega), (HC.out.trans (Chg.of (F := []) hb1) (by simp)).trans hG2 (fun k hk => Or.inr (by have := hG1 k hk; have := HN1.out; omega))⟩
                rw [← e2]
                exact (HSh.out.later hb1).sorted hiA (by rw [hx]; exact hO) (by rw [hx]; exact hg)
              have c2 := HX1.out.cell 0
              have c3 := HX1.out.cell 1
              simp only [List.getElem?_toArray, List.getElem?_cons_zero, List.getElem?_cons_succ] at c2 c3
              clear hArg hcell hpt hb1 hx HSh HI HC HX1 e1 e2
              generalize nmS nm = ns at *
              go_wp2_with (go_at_call 37; (with_reducible_and_instances (refine HSo.out.mono ?_)); rintro e W2 ⟨rfl, hO2, hg2⟩; have HE := hid (HFin.out W2 hO2 hg2); clear hO2 hg2)
              exact ⟨⟨i + 1, by omega, by go_num, HE.out.1, HE.out.2.1, HE.out.2.2.1, HE.out.2.2.2⟩, by simp [intOf]; omega⟩
            · obtain rfl : m = i := by omega
              go_wp2_with fail
              go_ret
              refine ⟨_, A, rfl, ?_, HNm.out, (by rw [HPe.out]; exact HI.out), HC.out⟩
              have h := HSh.out
              have e : srtN P m = P.map risZ := by rw [← srtN_all, HPm.out]
              rw [e] at h
              rw [HPe.out]
              exact h.mono HN1.out
end Go.Proofs.Ytakpdhmfbgfblaa
