/- sorted of the document's package for layer 14. -/
import Derived.Test.YtopbmopfahjhlaaANames
import Derived.Test.YtopbmopfahjhlaaAShs
import Derived.Test.YtopbmopfahjhlaaARise
import Derived.BigQuiet
import Derived.Deep.DeepCutAuto
import Derived.Deep.CutBlock
import Derived.Sort.Walk0
import Derived.Deep.QuietTactic
import Derived.Deep.RegionHeld3
import Derived.OrdersHeld
namespace Go.Proofs.Ytopbmopfahjhlaa
open Go.RowKit
variable {w w' : World} {ad : Option Addr} {m c : Nat} {l : List Nm}

theorem OwnK.take {α : Type} {K : Kd α} {base g n c : Nat} {s : List α} (hK : K.fit) (h : OwnK K w base (.slice (some ⟨g, 0, none⟩) n c) s) (k : Nat) (hk : k ≤ s.length) : OwnK K w base (.slice (some ⟨g, 0, none⟩) k c) (s.take k) := by
  rcases h.2 with ⟨e, -⟩ | ⟨g', cap, cur, e, hb, hg, hn, hm, hs, ht⟩
  · cases e
  · obtain ⟨rfl, rfl, rfl⟩ : g = g' ∧ n = s.length ∧ c = cap := by injection e with e1 e2 e3; injection e1 with e1; injection e1 with e1; exact ⟨e1, e2, e3⟩
    have hl : (s.take k).length = k := by rw [List.length_take]; omega
    refine ⟨by rw [hK.Vs_len], Or.inr ⟨g, c, cur, by rw [hl], hb, hg, by omega, hm, hs, ?_⟩⟩
    rw [hl]
    have e2 : cur.toList.take (k * K.sz) = (cur.toList.take (s.length * K.sz)).take (k * K.sz) := by
      rw [List.take_take]
      congr 1
      have := Nat.mul_le_mul_right K.sz hk
      omega
    rw [e2, ht]
    have e3 : K.Vs s = K.Vs (s.take k) ++ K.Vs (s.drop k) := by rw [← Kd.Vs_append, List.take_append_drop]
    have e4 : (K.Vs (s.take k)).length = k * K.sz := by rw [hK.Vs_len, hl]
    rw [e3, ← e4, List.take_left]
/-- A sorted list with the same names is risN. -/
theorem sorted_uniq {s t : List Nm} (h1 : s.Pairwise (· ≤ ·)) (h2 : t.Pairwise (· ≤ ·)) (hp : s.Perm t) : s = t := hp.eq_of_pairwise (fun _ _ _ _ h3 h4 => nm_anti h3 h4) h1 h2
theorem risN_of {s l : List Nm} (h1 : s.Pairwise (· ≤ ·)) (hp : s.Perm l) : s = risN l := sorted_uniq h1 (risN_sorted l) (hp.trans (risN_perm l).symm)
theorem ins_sorted {s : List Nm} {x : Nm} {k : Nat} (hs : s.Pairwise (· ≤ ·)) (hk : k ≤ s.length) (h1 : 0 < k → s.getD (k - 1) [] ≤ x) (h2 : ∀ j, k ≤ j → j < s.length → x ≤ s.getD j []) : (s.take k ++ [x] ++ s.drop k).Pairwise (· ≤ ·) := by
  have e : s = s.take k ++ s.drop k := (List.take_append_drop k s).symm
  rw [List.append_assoc, List.pairwise_append]
  refine ⟨hs.sublist (List.take_sublist _ _), ?_, ?_⟩
  · rw [List.singleton_append, List.pairwise_cons]
    refine ⟨fun y hy => ?_, hs.sublist (List.drop_sublist _ _)⟩
    obtain ⟨j, hj, rfl⟩ := List.mem_iff_getElem.1 hy
    rw [List.length_drop] at hj
    have := h2 (k + j) (by omega) (by omega)
    rw [getD_at _ _ _ (by omega)] at this
    rw [List.getElem_drop]
    exact this
  · intro a ha b hb
    obtain ⟨i, hi, rfl⟩ := List.mem_iff_getElem.1 ha
    rw [List.length_take] at hi
    have hax : (s.take k)[i]'(by rw [List.length_take]; omega) ≤ x := by
      have h3 := h1 (by omega)
      rw [getD_at _ _ _ (by omega)] at h3
      rw [List.getElem_take]
      by_cases e2 : i = k - 1
      · subst e2; exact h3
      · exact nm_trans (List.pairwise_iff_getElem.1 hs i (k - 1) (by omega) (by omega) (by omega)) h3
    rcases List.mem_cons.1 hb with rfl | hb
    · exact hax
    · have hb' : b ∈ s.drop k := hb
      obtain ⟨j, hj, rfl⟩ := List.mem_iff_getElem.1 hb'
      rw [List.length_drop] at hj
      have := h2 (k + j) (by omega) (by omega)
      rw [getD_at _ _ _ (by omega)] at this
      rw [List.getElem_drop]
      exact nm_trans hax this
theorem ins_perm {s t : List Nm} {x : Nm} (k : Nat) (h : s.Perm t) : (s.take k ++ [x] ++ s.drop k).Perm (t ++ [x]) := by
  have e : s = s.take k ++ s.drop k := (List.take_append_drop k s).symm
  refine List.Perm.trans ?_ (List.Perm.append_right [x] h)
  conv => rhs; rw [e]
  rw [List.append_assoc, List.append_assoc]
  exact List.Perm.append_left _ List.perm_append_comm
theorem nm_rowD (Y : World) (s : ByteArray) (d : Nm) (h : nmS d = s) : RowK kS (Y.alloc (.cells #[.string s] 9)).drew (some ⟨Y.heap.size, 0, none⟩) [d] := (nm_row Y s d h).later ((Below.refl _ _).drew)
theorem emptyS_own (W : World) : OwnK kS (W.alloc (.cells #[] 9)) W.heap.size (.slice (some ⟨W.heap.size, 0, none⟩) 0 0) [] :=
  ⟨rfl, Or.inr ⟨W.heap.size, 0, #[], rfl, Nat.le_refl _, heap_alloc_new W _, Nat.le_refl _, by unfold maxLen; omega, rfl, rfl⟩⟩
theorem copy_below {W W3 : World} {v : Value} (h : OwnK kS (W.alloc (.cells #[] 9)) W.heap.size v []) (hg : (W.alloc (.cells #[] 9)).grownBy W3 v.ownBlock) : Below W.heap.size W W3 :=
  ((Below.refl _ W).alloc (Nat.le_refl _) (.cells #[] 9)).grown hg (by simp) (fun k hk => (h.block k hk).1)
/-- 'append(v, x...)', both of the call's own, as one step of a region that draws its order. -/
theorem step_app_ownK {α : Type} {K : Kd α} {ops : Array Oper} {o : Oper} {a : Act} {Kn : Act → World → Prop} {Q : Exit → Act → World → Prop} {E : Prop} (hK : K.ok) (hgd : o.guard = none) (s x : Operand)
    (ho : o.op = .call { callee := .builtin .append, args := #[s, x], argTypes := #[K.S, K.S] })
    (base base2 : Nat) (v vg : Value) (L got : List α) (hs : a.eval s = v) (hown : OwnK K w base v L) (hx : a.eval x = vg) (hgot : OwnK K w base2 vg got)
    (hlen : L.length + got.length ≤ maxLen) (hbytes : (L.length + got.length) * K.bytes ≤ 140737488355328) (hbase : base ≤ w.heap.size)
    (h : ∀ (s' : Sl) w', s'.m = L.length + got.length → OwnK K w' base s'.v (L ++ got) → w.grownBy w' v.ownBlock → Kn (a.put o.dst s'.v) w') :
    if Region.wanted o (yielded ops a.tmps) = true then Oper.wp Try.prog o a w Kn Q else E := by
  have hw : Region.wanted o (yielded ops a.tmps) = true := by simp [Region.wanted, hgd]
  rw [if_pos hw]
  obtain ⟨i0, hi, hz0, hz1, hz2⟩ := info_parts hK.info
  have hsame : got = [] → (Builtin.append_ #[K.S, K.S] o.type #[v, vg]).run Try.prog w = .ok v w → Oper.wp Try.prog o a w Kn Q := fun h0 hr => by
    obtain ⟨ad, c, e, -⟩ := hown.form hK.tofit
    have hk := h ⟨ad, L.length, c⟩ w (by rw [h0]; rfl) (by rw [h0, List.append_nil]; rw [e] at hown; exact hown) (World.grownBy.refl _ _)
    unfold Oper.wp
    simp only [execOp, ho, resolve, invoke, builtin, Sem.run_bind, Sem.run_pure, Result.andThen_ok, List.map_toArray, List.map_cons, List.map_nil, hs, hx, hr]
    rw [e]
    exact hk
  rcases hgot.2 with ⟨rfl, h0⟩ | ⟨g, cap, cur, rfl, -⟩
  · exact hsame (List.eq_nil_of_length_eq_zero h0) (run_append_owned_none (P := Try.prog) (w := w) base _ _ _ i0 K.sz hK.und hi v _ _ hown)
  · by_cases h0 : got = []
    · subst h0
      exact hsame rfl (run_app_empty hK.und hi hown)
    · obtain ⟨ad2, c2, e2, hA⟩ := hgot.form hK.tofit
      cases e2
      have hgl : 0 < got.length := List.length_pos_iff.2 h0
      refine wp_append_lies w s x K.S ho base K.T i0 _ K.sz K.bytes hK.und hi hz0 hz1 hz2 hK.zsz hK.pos v L.length _ hs hown ⟨g, 0, none⟩ got.length cap (K.Vs got) hx (by rw [hK.tofit.Vs_len]) (hA.row.cells hK.tofit _ rfl) (hK.Vs_ones _) hgl hlen hbytes hbase w.heap.size rfl ?_
      intro b cap' w' h1 h2 h3 _
      refine h ⟨some ⟨b, 0, none⟩, L.length + got.length, cap'⟩ w' rfl ?_ h2
      unfold OwnK
      rw [List.length_append, Kd.Vs_append]
      exact h1
theorem drewN_drewN (W : World) (a b : Nat) : ∃ q, (W.drewN a).drewN b = W.drewN q := by
  refine ⟨a + b, ?_⟩
  induction b with
  | zero => rfl
  | succ b ih => exact congrArg World.drew ih
theorem nm_list (a : Nm) : (nmS a).toList = a := by unfold nmS; simp
theorem gt_cases (y x : Nm) : (Op.bytesLess (nmS y).toList (nmS x).toList = true ∧ y ≤ x) ∨ (Op.bytesLess (nmS y).toList (nmS x).toList = false ∧ ((nmS y).toList == (nmS x).toList) = true ∧ y ≤ x) ∨ (Op.bytesLess (nmS y).toList (nmS x).toList = false ∧ ((nmS y).toList == (nmS x).toList) = false ∧ x ≤ y) := by
  rw [nm_list, nm_list, bytesLess_eq]
  by_cases h1 : y < x
  · exact Or.inl ⟨by simpa using h1, List.le_of_lt h1⟩
  · by_cases h2 : y = x
    · subst h2
      exact Or.inr (Or.inl ⟨by simp, by simp, List.le_refl _⟩)
    · exact Or.inr (Or.inr ⟨by simpa using h1, by simpa using h2, List.not_lt.1 h1⟩)
theorem ArgK.drop {α : Type} {K : Kd α} {l : List α} {ad : Option Addr} {m c : Nat} (h : ArgK K w l ad m c) (k : Nat) (hk : k ≤ m) : ArgK K w (l.drop k) (if c = k then ad else ad.map (fun x => x.add (k * K.sz))) (m - k) (c - k) := by
  have hl := h.len
  refine ⟨by rw [List.length_drop, hl], ?_, by have := h.cap; omega, by have := h.room; omega, ?_⟩
  · intro e
    cases ad with
    | none => have := h.nil rfl; omega
    | some a =>
      by_cases hc : c = k
      · rw [if_pos hc] at e; cases e
      · rw [if_neg hc] at e; simp at e
  · by_cases h0 : l.drop k = []
    · exact Or.inl h0
    · rcases h.row with h1 | ⟨b, off, e, hb, hcl⟩
      · rw [h1] at h0; simp at h0
      · have hlt : k < m := by
          rcases Nat.lt_or_ge k m with h2 | h2
          · exact h2
          · exact absurd (List.drop_eq_nil_of_le (by omega)) h0
        have hck : c ≠ k := by have := h.cap; omega
        subst e
        rw [if_neg hck]
        refine Or.inr ⟨b, off + k * K.sz, by simp [addr_add], hb, fun i hi cc hcc => ?_⟩
        rw [List.length_drop] at hi
        have := hcl (k + i) (by omega) cc hcc
        rw [show off + k * K.sz + i * K.sz + cc = off + (k + i) * K.sz + cc by rw [Nat.add_mul]; omega, this]
        congr 2
        rw [List.getD_eq_getElem?_getD, List.getD_eq_getElem?_getD, List.getElem?_drop]
set_option maxRecDepth 20000 in
set_option maxHeartbeats 4000000 in
theorem refsorted_any (h : ArgK kS w l ad m c) (hm : m ≤ 1000) : Calls Try.prog 27 #[.slice ad m c] w fun e w' => ∃ v, e = .returned v ∧ OwnK kS w' w.heap.size v (risN l) ∧ Below w.heap.size w w' := by
  have HA := hid h
  have HL : Hid (l.length = m) := h.len
  clear h
  go_enter Try.func27, Try.ntmps27
  go_wp2_with fail
  go_loopw [3, 4] (fun v iv wr => ∃ (i : Nat) (va : Option Addr) (vc : Nat) (s : List Nm), i ≤ m ∧ iv = .int .i64 (i : Int) ∧ v = .slice va i vc ∧ w.heap.size ≤ wr.heap.size ∧ Hid (OwnK kS wr w.heap.size (.slice va i vc) s) ∧ Hid (s.length = i) ∧ Hid (s.Pairwise (· ≤ ·)) ∧ Hid (s.Perm (l.take i)) ∧ Hid (Below w.heap.size w wr)) (fun _ iv _ => m - (intOf iv).toNat)
  case atStart => exact ⟨0, none, 0, [], by omega, rfl, rfl, Nat.le_refl _, OwnK.nil (K := kS) w _, rfl, List.Pairwise.nil, (by rw [List.take_zero]; exact List.Perm.refl _), Below.refl _ _⟩
  case round =>
    obtain ⟨i, va, vc, s, hi, rfl, rfl, hsz, HO, HSl, HSs, HSp, HBl⟩ := hrel
    by_cases hlt : i < m
    · have hA := HA.out.later HBl.out
      obtain ⟨b1, o1, rfl, hs0, -⟩ := HA.out.cells (by omega)
      obtain ⟨b1', o1', e1, hs1, hc1⟩ := hA.cells (by omega)
      cases e1
      obtain ⟨x, hx⟩ : ∃ x, l.getD i [] = x := ⟨_, rfl⟩
      have r0 : wr.cell? ⟨b1, o1 + i, none⟩ = some (.string (nmS x)) := by have h := hc1 i hlt 0 (by decide); rw [Nat.mul_one, Nat.add_zero] at h; rw [← hx]; exact h
      have HTk : Hid (l.take (i + 1) = l.take i ++ [x]) := by rw [take_snoc_any l [] i (by rw [HL.out]; exact hlt), hx]; exact rfl
      obtain ⟨wq, rfl⟩ : ∃ q, q = wr := ⟨wr, rfl⟩
      clear hA hc1 hx
      go_upto_block 2 with (fail)
      go_cut [5] (fun kv wc => ∃ (k : Nat), k ≤ i ∧ kv = .int .i64 (k : Int) ∧ Hid (∀ j, k ≤ j → j < s.length → x ≤ s.getD j []) ∧ Hid (0 < k → s.getD (k - 1) [] ≤ x) ∧ Hid (∃ q, wc = wq.drewN q))
      case first =>
        go_wp2_with fail
        go_loopw [5] (fun kv wr => ∃ (k : Nat), k ≤ i ∧ kv = .int .i64 (k : Int) ∧ Hid (∀ j, k ≤ j → j < s.length → x ≤ s.getD j []) ∧ Hid (∃ q, wr = wq.drewN q)) (fun kv _ => (intOf kv).toNat)
        case atStart => exact ⟨i, Nat.le_refl _, rfl, (fun j h1 h2 => by have := HSl.out; omega), 0, rfl⟩
        case round =>
          obtain ⟨k, hk, rfl, HX, HQ⟩ := hrel
          have HQ2 : Hid (∀ n, ∃ q, wr.drewN n = wq.drewN q) := fun n => by obtain ⟨q, hq⟩ := HQ.out; rw [hq]; exact drewN_drewN wq q n
          by_cases hk0 : 0 < k
          · obtain ⟨q, hq⟩ := HQ.out
            have hbq : Below wq.heap.size wq wr := by rw [hq]; exact below_drewN' (Below.refl _ _) q
            obtain ⟨ad2, c2, e2, hA2⟩ := (HO.out.later hbq).form kS_ok.tofit
            rw [HSl.out] at e2 hA2
            obtain ⟨rfl, rfl⟩ : va = ad2 ∧ vc = c2 := by injection e2 with e3 e4 e5; exact ⟨e3, e5⟩
            obtain ⟨b2, o2, rfl, -, hc2⟩ := hA2.cells (by omega)
            have q0 : wr.cell? ⟨b2, o2 + (k - 1), none⟩ = some (.string (nmS (s.getD (k - 1) []))) := by have h := hc2 (k - 1) (by omega) 0 (by decide); rw [Nat.mul_one, Nat.add_zero] at h; exact h
            have q1 : wr.cell? ⟨b1, o1 + i, none⟩ = some (.string (nmS x)) := (hbq.cell (p := ⟨b1, o1 + i, none⟩) hs1).trans r0
            have hcap := hA2.cap
            obtain ⟨y, hy⟩ : ∃ y, s.getD (k - 1) [] = y := ⟨_, rfl⟩
            rw [hy] at q0
            have HY := hid hy
            have hki : (k : Int) - 1 = ((k - 1 : Nat) : Int) := by omega
            have hkm : k - 1 < i := by omega
            have hcs := gt_cases y x
            clear hc2 hA2 hq hy HQ
            rcases hcs with ⟨hb1, hle⟩ | ⟨hb1, hb2, hle⟩ | ⟨hb1, hb2, hle⟩
            · have HLe := hid hle
              clear hle
              generalize nmS y = ys at *
              generalize nmS x = xs at *
              go_wp2_with fail
              go_quiet (fail)
              all_goals go_wp2
              go_meet
              exact ⟨k, hk, rfl, HX, (fun _ => by rw [HY.out]; exact HLe.out), HQ2.out _⟩
            · have HLe := hid hle
              clear hle
              generalize nmS y = ys at *
              generalize nmS x = xs at *
              go_wp2_with fail
              go_quiet (fail)
              all_goals go_wp2
              go_meet
              exact ⟨k, hk, rfl, HX, (fun _ => by rw [HY.out]; exact HLe.out), HQ2.out _⟩
            · have HLe := hid hle
              clear hle
              generalize nmS y = ys at *
              generalize nmS x = xs at *
              go_wp2_with fail
              go_quiet (fail)
              all_goals go_wp2
              refine ⟨⟨k - 1, by omega, by go_num, ?_, HQ2.out _⟩, by simp [intOf]; omega⟩
              intro j h1 h2
              by_cases e : j = k - 1
              · rw [e, HY.out]; exact HLe.out
              · exact HX.out j (by omega) h2
          · obtain rfl : k = 0 := by omega
            clear HQ
            go_wp2_with fail
            go_quiet (fail)
            all_goals go_wp2
            go_meet
            exact ⟨0, hk, rfl, HX, (fun h => by omega), HQ2.out _⟩
      case rest =>
        obtain ⟨k, hk, rfl, HX, HLo, HQ⟩ := hcut
        obtain ⟨q, hq⟩ := HQ.out
        subst hq
        generalize hWE : wq.drewN q = WE
        have hbE : Below wq.heap.size wq WE := by rw [← hWE]; exact below_drewN' (Below.refl _ _) q
        have HOE := hid (HO.out.later hbE)
        have hszE : w.heap.size ≤ WE.heap.size := by have := hbE.size; omega
        have HBE := hid (HBl.out.trans (hbE.mono hsz))
        obtain ⟨xs, hxs⟩ : ∃ xs, nmS x = xs := ⟨_, rfl⟩
        rw [hxs] at r0
        have HXs := hid hxs
        have HS0 : Hid (w.cell? ⟨b1, o1 + i, none⟩ = some (.string xs)) := (HBl.out.cell (p := ⟨b1, o1 + i, none⟩) hs0).symm.trans r0
        have rE : WE.cell? ⟨b1, o1 + i, none⟩ = some (.string xs) := (hbE.cell (p := ⟨b1, o1 + i, none⟩) hs1).trans r0
        have HE8 := hid (emptyS_own WE)
        have HDl : Hid ((s.drop k).length = i - k) := by rw [List.length_drop, HSl.out]; exact rfl
        have HDm : Hid (([] : List Nm).length + (i - k) ≤ maxLen) := by rw [List.length_nil, Nat.zero_add]; unfold maxLen; show i - k ≤ _; omega
        have HDb : Hid ((([] : List Nm).length + (i - k)) * 16 ≤ 140737488355328) := by rw [List.length_nil, Nat.zero_add]; show (i - k) * 16 ≤ _; omega
        obtain ⟨adE, cE, eE, hAE⟩ := HOE.out.form kS_ok.tofit
        rw [HSl.out] at eE hAE
        obtain ⟨rfl, rfl⟩ : va = adE ∧ vc = cE := by injection eE with e3 e4 e5; exact ⟨e3, e5⟩
        have hcE := hAE.cap
        have hrE : vc ≤ 9223372036854775807 := by have := hAE.room; unfold maxLen at this; omega
        clear hxs hWE hbE eE r0 HQ
        rcases va with _ | ⟨g, og, sg⟩
        · skip
          obtain ⟨hi0, hc0⟩ := hAE.nil rfl
          have hk00 : k = 0 := by omega
          have hDr : ArgK kS WE (s.drop 0) none 0 0 := by have h := hAE.drop k hk; rw [show i - k = 0 by omega, show vc - k = 0 by omega, hk00] at h; split at h <;> exact h
          subst hc0
          subst hi0
          subst hk00
          rw [Nat.add_zero] at rE HS0
          have HDr := hid (hDr.later ((Below.refl _ WE).alloc (Nat.le_refl _) (.cells #[] 9)))
          have HDl2 : Hid ((s.drop 0).length = 0) := by have h := HDl.out; show _ = 0; omega
          have HDm2 : Hid (([] : List Nm).length + 0 ≤ maxLen) := by rw [List.length_nil, Nat.zero_add]; unfold maxLen; show 0 ≤ _; omega
          have HDb2 : Hid ((([] : List Nm).length + 0) * 16 ≤ 140737488355328) := by rw [List.length_nil, Nat.zero_add]; show 0 * 16 ≤ _; omega
          clear hDr hAE
          go_wp2_with (first
            | (at_builtin; (with_reducible_and_instances (refine app_kd kS_ok rfl _ _ rfl WE.heap.size (.slice (some ⟨WE.heap.size, 0, none⟩) 0 0) [] rfl HE8.out none 0 0 (s.drop 0) rfl HDl2.out HDr.out.nil HDr.out.row HDm2.out HDb2.out (by simp) ?_)); intro v6 w6 hO6 hG6; obtain ⟨a6, c6, hv6, -⟩ := hO6.form kS_ok.tofit; rw [List.nil_append] at hv6 hO6; obtain ⟨n6, hn6⟩ : ∃ n6, (s.drop 0).length = n6 := ⟨_, rfl⟩; rw [hn6] at hv6; subst hv6; have HO6 := hid hO6; have HB6 := hid (copy_below HE8.out hG6); clear hO6 hG6 hn6))
          have hz6 := HB6.out.size
          have HS9 : Hid (∀ W, Below w6.heap.size w6 W → W.cell? ⟨b1, o1, none⟩ = some (.string xs)) := fun W hb => ((HBE.out.trans ((HB6.out.trans (hb.mono hz6)).mono hszE)).cell (p := ⟨b1, o1, none⟩) hs0).trans HS0.out
          have HT6 : Hid (OwnK kS w6 w.heap.size (.slice none 0 0) (s.take 0)) := (by rw [List.take_zero]; exact OwnK.nil (K := kS) w6 _)
          have HTl : Hid ((s.take 0).length = 0) := by rw [List.length_take, HSl.out]; show min 0 0 = 0; omega
          have HR6 : Hid (∀ W7 W8, Below w6.heap.size w6 W7 → W7.grownBy W8 (Value.slice none 0 0).ownBlock → OwnK kS W8 WE.heap.size (.slice a6 n6 c6) (s.drop 0) ∧ W8.cell? ⟨b1, o1, none⟩ = some (.string xs) ∧ Below w.heap.size w W8) := fun W7 W8 hB7 hG8 => by
            have hlow : ∀ gg, (Value.slice none 0 0).ownBlock = some gg → w.heap.size ≤ gg ∧ gg < WE.heap.size := fun gg hg => by
              cases hg
            have hz7 := hB7.size
            have hb7 : Below w.heap.size w W7 := HBE.out.trans ((HB6.out.trans (hB7.mono hz6)).mono hszE)
            have hb8 : Below w.heap.size w W8 := hb7.grown hG8 hb7.size (fun gg hg => (hlow gg hg).1)
            have hO7 := HO6.out.later hB7
            refine ⟨hO7.keep (fun gg hg => hG8.block gg (hO7.block gg hg).2.1 (fun e => ?_)), (hb8.cell (p := ⟨b1, o1, none⟩) hs0).trans HS0.out, hb8⟩
            have h1 := (hlow gg e.symm).2
            have h2 := (HO6.out.block gg hg).1
            omega
          have HLs : Hid ((s.take 0 ++ [x]).length + (s.drop 0).length = 0 + 1) := by rw [List.length_append, List.length_take, List.length_drop, HSl.out]; show min 0 0 + 1 + (0 - 0) = 0 + 1; omega
          have HLl : Hid ((s.take 0 ++ [x]).length + (s.drop 0).length ≤ maxLen) := by rw [HLs.out]; unfold maxLen; show 0 + 1 ≤ _; omega
          have HLb : Hid (((s.take 0 ++ [x]).length + (s.drop 0).length) * 16 ≤ 140737488355328) := by rw [HLs.out]; show (0 + 1) * 16 ≤ _; omega
          clear HDr
          refine wp_region_held_drew (S := fun W => W.cell? ⟨b1, o1, none⟩ = some (.string xs)) (by kernel_rfl) (HS9.out _ (Below.refl _ w6).drew) (fun hHeld => ?_)
          refine wpAnyH_take (i := 0) (oi := { dst := some 36, op := Op.move (Operand.tmp 3), type := 22, pos := "ref.go:30", after := #[], guard := none }) (v := ?_) rfl (by kernel_rfl) (by kernel_rfl) (by kernel_rfl) (fun _ _ _ h => h) (Or.inl ⟨by rfl, ?_⟩) hHeld ?_
          rotate_left
          · intro w hSw; (try dsimp only at hSw); go_simp; try with_reducible rfl
          try simp only [Act.put, List.setIfInBounds_toArray, List.set_cons_zero, List.set_cons_succ]
          refine wpAnyH_take (i := 1) (oi := { dst := some 37, op := Op.move (Operand.tmp 5), type := 3, pos := "ref.go:30", after := #[], guard := none }) (v := ?_) rfl (by kernel_rfl) (by kernel_rfl) (by kernel_rfl) (fun _ _ _ h => h) (Or.inl ⟨by rfl, ?_⟩) hHeld ?_
          rotate_left
          · intro w hSw; (try dsimp only at hSw); go_simp; try with_reducible rfl
          try simp only [Act.put, List.setIfInBounds_toArray, List.set_cons_zero, List.set_cons_succ]
          refine wpAnyH_take (i := 2) (oi := { dst := some 38, op := Op.slice 22 (Operand.tmp 36) none (some (Operand.tmp 37)) none, type := 22, pos := "ref.go:30", after := #[{ on := 0, ground := Ground.data }, { on := 1, ground := Ground.data }], guard := none }) (v := ?_) rfl (by kernel_rfl) (by kernel_rfl) (by kernel_rfl) (fun _ _ _ h => h) (Or.inl ⟨by rfl, ?_⟩) hHeld ?_
          rotate_left
          · intro w hSw; (try dsimp only at hSw); go_simp; try with_reducible rfl
          try simp only [Act.put, List.setIfInBounds_toArray, List.set_cons_zero, List.set_cons_succ]
          refine wpAnyH_take (i := 3) (oi := { dst := some 39, op := Op.move (Operand.tmp 0), type := 22, pos := "ref.go:30", after := #[], guard := none }) (v := ?_) rfl (by kernel_rfl) (by kernel_rfl) (by kernel_rfl) (fun _ _ _ h => h) (Or.inl ⟨by rfl, ?_⟩) hHeld ?_
          rotate_left
          · intro w hSw; (try dsimp only at hSw); go_simp; try with_reducible rfl
          try simp only [Act.put, List.setIfInBounds_toArray, List.set_cons_zero, List.set_cons_succ]
          refine wpAnyH_take (i := 4) (oi := { dst := some 40, op := Op.move (Operand.tmp 4), type := 3, pos := "ref.go:30", after := #[], guard := none }) (v := ?_) rfl (by kernel_rfl) (by kernel_rfl) (by kernel_rfl) (fun _ _ _ h => h) (Or.inl ⟨by rfl, ?_⟩) hHeld ?_
          rotate_left
          · intro w hSw; (try dsimp only at hSw); go_simp; try with_reducible rfl
          try simp only [Act.put, List.setIfInBounds_toArray, List.set_cons_zero, List.set_cons_succ]
          refine wpAnyH_take (i := 5) (oi := { dst := some 41, op := Op.indexAddr 22 (Operand.tmp 39) (Operand.tmp 40), type := 0, pos := "ref.go:30", after := #[{ on := 3, ground := Ground.data }, { on := 4, ground := Ground.data }], guard := none }) (v := ?_) rfl (by kernel_rfl) (by kernel_rfl) (by kernel_rfl) (fun _ _ _ h => h) (Or.inl ⟨by rfl, ?_⟩) hHeld ?_
          rotate_left
          · intro w hSw; (try dsimp only at hSw); go_simp; try with_reducible rfl
          try simp only [Act.put, List.setIfInBounds_toArray, List.set_cons_zero, List.set_cons_succ]
          refine wpAnyH_take (i := 6) (oi := { dst := some 42, op := Op.load 9 (Operand.tmp 41), type := 9, pos := "ref.go:30", after := #[{ on := 5, ground := Ground.data }], guard := none }) (v := ?_) rfl (by kernel_rfl) (by kernel_rfl) (by kernel_rfl) (fun _ _ _ h => h) (Or.inl ⟨by rfl, ?_⟩) hHeld ?_
          rotate_left
          · intro w hSw; (try dsimp only at hSw); go_simp; try with_reducible rfl
          try simp only [Act.put, List.setIfInBounds_toArray, List.set_cons_zero, List.set_cons_succ]
          refine wpAnyH_take (i := 9) (oi := { dst := some 45, op := Op.move (Operand.tmp 6), type := 22, pos := "ref.go:30", after := #[], guard := none }) (v := ?_) rfl (by kernel_rfl) (by kernel_rfl) (by kernel_rfl) (fun _ _ _ h => h) (Or.inl ⟨by rfl, ?_⟩) hHeld ?_
          rotate_left
          · intro w hSw; (try dsimp only at hSw); go_simp; try with_reducible rfl
          try simp only [Act.put, List.setIfInBounds_toArray, List.set_cons_zero, List.set_cons_succ]
          refine wpAnyH_ready (rs := [7]) (by kernel_rfl) (by simp) ?_
          refine AllReadyH.cons rfl (fun K hK => ?_) (AllReadyH.nil)
          go_simp
          have hB7 : Below w6.heap.size w6 (w6.alloc (.cells #[.string xs] 9)).drew := ((Below.refl _ w6).alloc (Nat.le_refl _) _).drew
          refine hK.out _ _ (HS9.out _ hB7) (fun hHeld => ?_)
          clear hK K
          try simp only [Act.put, List.setIfInBounds_toArray, List.set_cons_zero, List.set_cons_succ]
          refine wpAnyH_ready (rs := [8]) (by kernel_rfl) (by simp) ?_
          refine AllReadyH.cons rfl (fun K hK => ?_) (AllReadyH.nil)
          refine step_app_kd kS_ok (by rfl) (.tmp 38) (.tmp 43) (by rfl) w.heap.size (.slice none 0 0) (s.take 0) (by rfl) (HT6.out.later hB7) w6.heap.size x (by rfl) (nm_rowD w6 xs x HXs.out) (by rw [HTl.out]; unfold maxLen; omega) (by rw [HTl.out]; show (0 + 1) * 16 ≤ _; omega) (by have := hB7.size; omega) ?_
          intro b8 c8 W8 hO8 hG8 hL8
          rw [HTl.out] at hO8 ⊢
          obtain ⟨hR8, hS8, hb8⟩ := HR6.out _ W8 hB7 hG8
          have HO8 := hid hO8; have HR8 := hid hR8; have HB8 := hid hb8; clear hO8 hG8 hL8 hR8 hb8
          refine hK.out _ _ (hS8) (fun hHeld => ?_)
          clear hK K
          refine wpAnyH_ready (rs := [10]) (by kernel_rfl) (by simp) ?_
          refine AllReadyH.cons rfl (fun K hK => ?_) (AllReadyH.nil)
          refine step_app_ownK kS_ok (by rfl) (.tmp 44) (.tmp 45) (by rfl) w.heap.size WE.heap.size (.slice (some ⟨b8, 0, none⟩) (0 + 1) c8) (.slice a6 n6 c6) (s.take 0 ++ [x]) (s.drop 0) (by rfl) HO8.out (by rfl) HR8.out HLl.out HLb.out HB8.out.size ?_
          intro s9 W9 hs9 hO9 hG9
          have hb9 := HB8.out.grown hG9 HB8.out.size (fun kk hk => (HO8.out.block kk hk).1)
          have hS9 := (hb9.cell (p := ⟨b1, o1, none⟩) hs0).trans HS0.out
          have HO9 := hid hO9; have HB9 := hid hb9; clear hO9 hG9 hb9
          obtain ⟨sa, sm, sc⟩ := s9
          have hsm : sm = 0 + 1 := hs9.trans HLs.out
          subst hsm; clear hs9
          unfold Sl.v at HO9 ⊢
          refine hK.out _ _ (hS9) (fun hHeld => ?_)
          clear hK K
          refine wpAnyH_take (i := 11) (oi := { dst := some 3, op := Op.assign (Operand.tmp 46), type := 22, pos := "ref.go:30", after := #[{ on := 10, ground := Ground.data }, { on := 10, ground := Ground.chain }, { on := 0, ground := Ground.phase }, { on := 1, ground := Ground.phase }, { on := 2, ground := Ground.phase }, { on := 3, ground := Ground.phase }, { on := 4, ground := Ground.phase }, { on := 5, ground := Ground.phase }, { on := 6, ground := Ground.phase }, { on := 7, ground := Ground.phase }, { on := 8, ground := Ground.phase }, { on := 9, ground := Ground.phase }, { on := 10, ground := Ground.phase }], guard := none }) (v := ?_) rfl (by kernel_rfl) (by kernel_rfl) (by kernel_rfl) (fun _ _ _ h => h) (Or.inl ⟨by rfl, ?_⟩) hHeld ?_
          rotate_left
          · intro w hSw; (try dsimp only at hSw); go_simp; try with_reducible rfl
          refine wpAnyH_done (by kernel_rfl) ?_ _
          go_wp2_with fail
          refine ⟨⟨0 + 1, sa, sc, s.take 0 ++ [x] ++ s.drop 0, by omega, by go_num, rfl, HB9.out.size, HO9, ?_, ins_sorted HSs.out (by rw [HSl.out]; exact hk) HLo.out HX.out, (by rw [HTk.out]; exact ins_perm 0 HSp.out), HB9⟩, by simp [intOf]; omega⟩
          show (s.take 0 ++ [x] ++ s.drop 0).length = 0 + 1
          rw [List.length_append, HLs.out]
        · obtain ⟨rfl, rfl⟩ : og = 0 ∧ sg = none := by
            rcases HOE.out.2 with ⟨e, -⟩ | ⟨g', cap, cur, e, -⟩
            · cases e
            · cases e; exact ⟨rfl, rfl⟩
          by_cases hvk : vc = k
          · skip
            have hik : i = k := by omega
            have hDr := hAE.drop k hk
            rw [if_pos hvk, hvk, hik, Nat.sub_self] at hDr
            subst hvk
            subst hik
            have HDr := hid (hDr.later ((Below.refl _ WE).alloc (Nat.le_refl _) (.cells #[] 9)))
            have HDl2 : Hid ((s.drop i).length = 0) := by have h := HDl.out; show _ = 0; omega
            have HDm2 : Hid (([] : List Nm).length + 0 ≤ maxLen) := by rw [List.length_nil, Nat.zero_add]; unfold maxLen; show 0 ≤ _; omega
            have HDb2 : Hid ((([] : List Nm).length + 0) * 16 ≤ 140737488355328) := by rw [List.length_nil, Nat.zero_add]; show 0 * 16 ≤ _; omega
            clear hDr hAE
            go_wp2_with (first
              | (at_builtin; (with_reducible_and_instances (refine app_kd kS_ok rfl _ _ rfl WE.heap.size (.slice (some ⟨WE.heap.size, 0, none⟩) 0 0) [] rfl HE8.out (some ⟨g, 0, none⟩) 0 0 (s.drop i) rfl HDl2.out HDr.out.nil HDr.out.row HDm2.out HDb2.out (by simp) ?_)); intro v6 w6 hO6 hG6; obtain ⟨a6, c6, hv6, -⟩ := hO6.form kS_ok.tofit; rw [List.nil_append] at hv6 hO6; obtain ⟨n6, hn6⟩ : ∃ n6, (s.drop i).length = n6 := ⟨_, rfl⟩; rw [hn6] at hv6; subst hv6; have HO6 := hid hO6; have HB6 := hid (copy_below HE8.out hG6); clear hO6 hG6 hn6))
            have hz6 := HB6.out.size
            have HS9 : Hid (∀ W, Below w6.heap.size w6 W → W.cell? ⟨b1, o1 + i, none⟩ = some (.string xs)) := fun W hb => ((HBE.out.trans ((HB6.out.trans (hb.mono hz6)).mono hszE)).cell (p := ⟨b1, o1 + i, none⟩) hs0).trans HS0.out
            have HT6 : Hid (OwnK kS w6 w.heap.size (.slice (some ⟨g, 0, none⟩) i i) (s.take i)) := OwnK.take kS_ok.tofit (HOE.out.later HB6.out) i (by rw [HSl.out]; exact hk)
            have HTl : Hid ((s.take i).length = i) := by rw [List.length_take, HSl.out]; show min i i = i; omega
            have HR6 : Hid (∀ W7 W8, Below w6.heap.size w6 W7 → W7.grownBy W8 (Value.slice (some ⟨g, 0, none⟩) i i).ownBlock → OwnK kS W8 WE.heap.size (.slice a6 n6 c6) (s.drop i) ∧ W8.cell? ⟨b1, o1 + i, none⟩ = some (.string xs) ∧ Below w.heap.size w W8) := fun W7 W8 hB7 hG8 => by
              have hlow : ∀ gg, (Value.slice (some ⟨g, 0, none⟩) i i).ownBlock = some gg → w.heap.size ≤ gg ∧ gg < WE.heap.size := fun gg hg => by
                have h := HOE.out.block gg (by cases hg; rfl); exact ⟨h.1, h.2.1⟩
              have hz7 := hB7.size
              have hb7 : Below w.heap.size w W7 := HBE.out.trans ((HB6.out.trans (hB7.mono hz6)).mono hszE)
              have hb8 : Below w.heap.size w W8 := hb7.grown hG8 hb7.size (fun gg hg => (hlow gg hg).1)
              have hO7 := HO6.out.later hB7
              refine ⟨hO7.keep (fun gg hg => hG8.block gg (hO7.block gg hg).2.1 (fun e => ?_)), (hb8.cell (p := ⟨b1, o1 + i, none⟩) hs0).trans HS0.out, hb8⟩
              have h1 := (hlow gg e.symm).2
              have h2 := (HO6.out.block gg hg).1
              omega
            have HLs : Hid ((s.take i ++ [x]).length + (s.drop i).length = i + 1) := by rw [List.length_append, List.length_take, List.length_drop, HSl.out]; show min i i + 1 + (i - i) = i + 1; omega
            have HLl : Hid ((s.take i ++ [x]).length + (s.drop i).length ≤ maxLen) := by rw [HLs.out]; unfold maxLen; show i + 1 ≤ _; omega
            have HLb : Hid (((s.take i ++ [x]).length + (s.drop i).length) * 16 ≤ 140737488355328) := by rw [HLs.out]; show (i + 1) * 16 ≤ _; omega
            clear HDr
            refine wp_region_held_drew (S := fun W => W.cell? ⟨b1, o1 + i, none⟩ = some (.string xs)) (by kernel_rfl) (HS9.out _ (Below.refl _ w6).drew) (fun hHeld => ?_)
            refine wpAnyH_take (i := 0) (oi := { dst := some 36, op := Op.move (Operand.tmp 3), type := 22, pos := "ref.go:30", after := #[], guard := none }) (v := ?_) rfl (by kernel_rfl) (by kernel_rfl) (by kernel_rfl) (fun _ _ _ h => h) (Or.inl ⟨by rfl, ?_⟩) hHeld ?_
            rotate_left
            · intro w hSw; (try dsimp only at hSw); go_simp; try with_reducible rfl
            try simp only [Act.put, List.setIfInBounds_toArray, List.set_cons_zero, List.set_cons_succ]
            refine wpAnyH_take (i := 1) (oi := { dst := some 37, op := Op.move (Operand.tmp 5), type := 3, pos := "ref.go:30", after := #[], guard := none }) (v := ?_) rfl (by kernel_rfl) (by kernel_rfl) (by kernel_rfl) (fun _ _ _ h => h) (Or.inl ⟨by rfl, ?_⟩) hHeld ?_
            rotate_left
            · intro w hSw; (try dsimp only at hSw); go_simp; try with_reducible rfl
            try simp only [Act.put, List.setIfInBounds_toArray, List.set_cons_zero, List.set_cons_succ]
            refine wpAnyH_take (i := 2) (oi := { dst := some 38, op := Op.slice 22 (Operand.tmp 36) none (some (Operand.tmp 37)) none, type := 22, pos := "ref.go:30", after := #[{ on := 0, ground := Ground.data }, { on := 1, ground := Ground.data }], guard := none }) (v := ?_) rfl (by kernel_rfl) (by kernel_rfl) (by kernel_rfl) (fun _ _ _ h => h) (Or.inl ⟨by rfl, ?_⟩) hHeld ?_
            rotate_left
            · intro w hSw; (try dsimp only at hSw); go_simp; try with_reducible rfl
            try simp only [Act.put, List.setIfInBounds_toArray, List.set_cons_zero, List.set_cons_succ]
            refine wpAnyH_take (i := 3) (oi := { dst := some 39, op := Op.move (Operand.tmp 0), type := 22, pos := "ref.go:30", after := #[], guard := none }) (v := ?_) rfl (by kernel_rfl) (by kernel_rfl) (by kernel_rfl) (fun _ _ _ h => h) (Or.inl ⟨by rfl, ?_⟩) hHeld ?_
            rotate_left
            · intro w hSw; (try dsimp only at hSw); go_simp; try with_reducible rfl
            try simp only [Act.put, List.setIfInBounds_toArray, List.set_cons_zero, List.set_cons_succ]
            refine wpAnyH_take (i := 4) (oi := { dst := some 40, op := Op.move (Operand.tmp 4), type := 3, pos := "ref.go:30", after := #[], guard := none }) (v := ?_) rfl (by kernel_rfl) (by kernel_rfl) (by kernel_rfl) (fun _ _ _ h => h) (Or.inl ⟨by rfl, ?_⟩) hHeld ?_
            rotate_left
            · intro w hSw; (try dsimp only at hSw); go_simp; try with_reducible rfl
            try simp only [Act.put, List.setIfInBounds_toArray, List.set_cons_zero, List.set_cons_succ]
            refine wpAnyH_take (i := 5) (oi := { dst := some 41, op := Op.indexAddr 22 (Operand.tmp 39) (Operand.tmp 40), type := 0, pos := "ref.go:30", after := #[{ on := 3, ground := Ground.data }, { on := 4, ground := Ground.data }], guard := none }) (v := ?_) rfl (by kernel_rfl) (by kernel_rfl) (by kernel_rfl) (fun _ _ _ h => h) (Or.inl ⟨by rfl, ?_⟩) hHeld ?_
            rotate_left
            · intro w hSw; (try dsimp only at hSw); go_simp; try with_reducible rfl
            try simp only [Act.put, List.setIfInBounds_toArray, List.set_cons_zero, List.set_cons_succ]
            refine wpAnyH_take (i := 6) (oi := { dst := some 42, op := Op.load 9 (Operand.tmp 41), type := 9, pos := "ref.go:30", after := #[{ on := 5, ground := Ground.data }], guard := none }) (v := ?_) rfl (by kernel_rfl) (by kernel_rfl) (by kernel_rfl) (fun _ _ _ h => h) (Or.inl ⟨by rfl, ?_⟩) hHeld ?_
            rotate_left
            · intro w hSw; (try dsimp only at hSw); go_simp; try with_reducible rfl
            try simp only [Act.put, List.setIfInBounds_toArray, List.set_cons_zero, List.set_cons_succ]
            refine wpAnyH_take (i := 9) (oi := { dst := some 45, op := Op.move (Operand.tmp 6), type := 22, pos := "ref.go:30", after := #[], guard := none }) (v := ?_) rfl (by kernel_rfl) (by kernel_rfl) (by kernel_rfl) (fun _ _ _ h => h) (Or.inl ⟨by rfl, ?_⟩) hHeld ?_
            rotate_left
            · intro w hSw; (try dsimp only at hSw); go_simp; try with_reducible rfl
            try simp only [Act.put, List.setIfInBounds_toArray, List.set_cons_zero, List.set_cons_succ]
            refine wpAnyH_ready (rs := [7]) (by kernel_rfl) (by simp) ?_
            refine AllReadyH.cons rfl (fun K hK => ?_) (AllReadyH.nil)
            go_simp
            have hB7 : Below w6.heap.size w6 (w6.alloc (.cells #[.string xs] 9)).drew := ((Below.refl _ w6).alloc (Nat.le_refl _) _).drew
            refine hK.out _ _ (HS9.out _ hB7) (fun hHeld => ?_)
            clear hK K
            try simp only [Act.put, List.setIfInBounds_toArray, List.set_cons_zero, List.set_cons_succ]
            refine wpAnyH_ready (rs := [8]) (by kernel_rfl) (by simp) ?_
            refine AllReadyH.cons rfl (fun K hK => ?_) (AllReadyH.nil)
            refine step_app_kd kS_ok (by rfl) (.tmp 38) (.tmp 43) (by rfl) w.heap.size (.slice (some ⟨g, 0, none⟩) i i) (s.take i) (by rfl) (HT6.out.later hB7) w6.heap.size x (by rfl) (nm_rowD w6 xs x HXs.out) (by rw [HTl.out]; unfold maxLen; omega) (by rw [HTl.out]; show (i + 1) * 16 ≤ _; omega) (by have := hB7.size; omega) ?_
            intro b8 c8 W8 hO8 hG8 hL8
            rw [HTl.out] at hO8 ⊢
            obtain ⟨hR8, hS8, hb8⟩ := HR6.out _ W8 hB7 hG8
            have HO8 := hid hO8; have HR8 := hid hR8; have HB8 := hid hb8; clear hO8 hG8 hL8 hR8 hb8
            refine hK.out _ _ (hS8) (fun hHeld => ?_)
            clear hK K
            refine wpAnyH_ready (rs := [10]) (by kernel_rfl) (by simp) ?_
            refine AllReadyH.cons rfl (fun K hK => ?_) (AllReadyH.nil)
            refine step_app_ownK kS_ok (by rfl) (.tmp 44) (.tmp 45) (by rfl) w.heap.size WE.heap.size (.slice (some ⟨b8, 0, none⟩) (i + 1) c8) (.slice a6 n6 c6) (s.take i ++ [x]) (s.drop i) (by rfl) HO8.out (by rfl) HR8.out HLl.out HLb.out HB8.out.size ?_
            intro s9 W9 hs9 hO9 hG9
            have hb9 := HB8.out.grown hG9 HB8.out.size (fun kk hk => (HO8.out.block kk hk).1)
            have hS9 := (hb9.cell (p := ⟨b1, o1 + i, none⟩) hs0).trans HS0.out
            have HO9 := hid hO9; have HB9 := hid hb9; clear hO9 hG9 hb9
            obtain ⟨sa, sm, sc⟩ := s9
            have hsm : sm = i + 1 := hs9.trans HLs.out
            subst hsm; clear hs9
            unfold Sl.v at HO9 ⊢
            refine hK.out _ _ (hS9) (fun hHeld => ?_)
            clear hK K
            refine wpAnyH_take (i := 11) (oi := { dst := some 3, op := Op.assign (Operand.tmp 46), type := 22, pos := "ref.go:30", after := #[{ on := 10, ground := Ground.data }, { on := 10, ground := Ground.chain }, { on := 0, ground := Ground.phase }, { on := 1, ground := Ground.phase }, { on := 2, ground := Ground.phase }, { on := 3, ground := Ground.phase }, { on := 4, ground := Ground.phase }, { on := 5, ground := Ground.phase }, { on := 6, ground := Ground.phase }, { on := 7, ground := Ground.phase }, { on := 8, ground := Ground.phase }, { on := 9, ground := Ground.phase }, { on := 10, ground := Ground.phase }], guard := none }) (v := ?_) rfl (by kernel_rfl) (by kernel_rfl) (by kernel_rfl) (fun _ _ _ h => h) (Or.inl ⟨by rfl, ?_⟩) hHeld ?_
            rotate_left
            · intro w hSw; (try dsimp only at hSw); go_simp; try with_reducible rfl
            refine wpAnyH_done (by kernel_rfl) ?_ _
            go_wp2_with fail
            refine ⟨⟨i + 1, sa, sc, s.take i ++ [x] ++ s.drop i, by omega, by go_num, rfl, HB9.out.size, HO9, ?_, ins_sorted HSs.out (by rw [HSl.out]; exact hk) HLo.out HX.out, (by rw [HTk.out]; exact ins_perm i HSp.out), HB9⟩, by simp [intOf]; omega⟩
            show (s.take i ++ [x] ++ s.drop i).length = i + 1
            rw [List.length_append, HLs.out]
          · skip
            have hDr := hAE.drop k hk
            rw [if_neg hvk] at hDr
            rw [show (Option.map (fun x => x.add (k * kS.sz)) (some (⟨g, 0, none⟩ : Addr))) = some ⟨g, k, none⟩ by simp [addr_add]] at hDr
            have HDr := hid (hDr.later ((Below.refl _ WE).alloc (Nat.le_refl _) (.cells #[] 9)))
            have HDl2 : Hid ((s.drop k).length = (i - k)) := by have h := HDl.out; show _ = (i - k); omega
            have HDm2 : Hid (([] : List Nm).length + (i - k) ≤ maxLen) := by rw [List.length_nil, Nat.zero_add]; unfold maxLen; show (i - k) ≤ _; omega
            have HDb2 : Hid ((([] : List Nm).length + (i - k)) * 16 ≤ 140737488355328) := by rw [List.length_nil, Nat.zero_add]; show (i - k) * 16 ≤ _; omega
            clear hDr hAE
            go_wp2_with (first
              | (at_builtin; (with_reducible_and_instances (refine app_kd kS_ok rfl _ _ rfl WE.heap.size (.slice (some ⟨WE.heap.size, 0, none⟩) 0 0) [] rfl HE8.out (some ⟨g, k, none⟩) (i - k) (vc - k) (s.drop k) rfl HDl2.out HDr.out.nil HDr.out.row HDm2.out HDb2.out (by simp) ?_)); intro v6 w6 hO6 hG6; obtain ⟨a6, c6, hv6, -⟩ := hO6.form kS_ok.tofit; rw [List.nil_append] at hv6 hO6; obtain ⟨n6, hn6⟩ : ∃ n6, (s.drop k).length = n6 := ⟨_, rfl⟩; rw [hn6] at hv6; subst hv6; have HO6 := hid hO6; have HB6 := hid (copy_below HE8.out hG6); clear hO6 hG6 hn6))
            have hz6 := HB6.out.size
            have HS9 : Hid (∀ W, Below w6.heap.size w6 W → W.cell? ⟨b1, o1 + i, none⟩ = some (.string xs)) := fun W hb => ((HBE.out.trans ((HB6.out.trans (hb.mono hz6)).mono hszE)).cell (p := ⟨b1, o1 + i, none⟩) hs0).trans HS0.out
            have HT6 : Hid (OwnK kS w6 w.heap.size (.slice (some ⟨g, 0, none⟩) k vc) (s.take k)) := OwnK.take kS_ok.tofit (HOE.out.later HB6.out) k (by rw [HSl.out]; exact hk)
            have HTl : Hid ((s.take k).length = k) := by rw [List.length_take, HSl.out]; show min k i = k; omega
            have HR6 : Hid (∀ W7 W8, Below w6.heap.size w6 W7 → W7.grownBy W8 (Value.slice (some ⟨g, 0, none⟩) k vc).ownBlock → OwnK kS W8 WE.heap.size (.slice a6 n6 c6) (s.drop k) ∧ W8.cell? ⟨b1, o1 + i, none⟩ = some (.string xs) ∧ Below w.heap.size w W8) := fun W7 W8 hB7 hG8 => by
              have hlow : ∀ gg, (Value.slice (some ⟨g, 0, none⟩) k vc).ownBlock = some gg → w.heap.size ≤ gg ∧ gg < WE.heap.size := fun gg hg => by
                have h := HOE.out.block gg (by cases hg; rfl); exact ⟨h.1, h.2.1⟩
              have hz7 := hB7.size
              have hb7 : Below w.heap.size w W7 := HBE.out.trans ((HB6.out.trans (hB7.mono hz6)).mono hszE)
              have hb8 : Below w.heap.size w W8 := hb7.grown hG8 hb7.size (fun gg hg => (hlow gg hg).1)
              have hO7 := HO6.out.later hB7
              refine ⟨hO7.keep (fun gg hg => hG8.block gg (hO7.block gg hg).2.1 (fun e => ?_)), (hb8.cell (p := ⟨b1, o1 + i, none⟩) hs0).trans HS0.out, hb8⟩
              have h1 := (hlow gg e.symm).2
              have h2 := (HO6.out.block gg hg).1
              omega
            have HLs : Hid ((s.take k ++ [x]).length + (s.drop k).length = i + 1) := by rw [List.length_append, List.length_take, List.length_drop, HSl.out]; show min k i + 1 + (i - k) = i + 1; omega
            have HLl : Hid ((s.take k ++ [x]).length + (s.drop k).length ≤ maxLen) := by rw [HLs.out]; unfold maxLen; show i + 1 ≤ _; omega
            have HLb : Hid (((s.take k ++ [x]).length + (s.drop k).length) * 16 ≤ 140737488355328) := by rw [HLs.out]; show (i + 1) * 16 ≤ _; omega
            clear HDr
            refine wp_region_held_drew (S := fun W => W.cell? ⟨b1, o1 + i, none⟩ = some (.string xs)) (by kernel_rfl) (HS9.out _ (Below.refl _ w6).drew) (fun hHeld => ?_)
            refine wpAnyH_take (i := 0) (oi := { dst := some 36, op := Op.move (Operand.tmp 3), type := 22, pos := "ref.go:30", after := #[], guard := none }) (v := ?_) rfl (by kernel_rfl) (by kernel_rfl) (by kernel_rfl) (fun _ _ _ h => h) (Or.inl ⟨by rfl, ?_⟩) hHeld ?_
            rotate_left
            · intro w hSw; (try dsimp only at hSw); go_simp; first | with_reducible rfl | exact if_pos (show k ≤ vc by omega) | skip
            try simp only [Act.put, List.setIfInBounds_toArray, List.set_cons_zero, List.set_cons_succ]
            refine wpAnyH_take (i := 1) (oi := { dst := some 37, op := Op.move (Operand.tmp 5), type := 3, pos := "ref.go:30", after := #[], guard := none }) (v := ?_) rfl (by kernel_rfl) (by kernel_rfl) (by kernel_rfl) (fun _ _ _ h => h) (Or.inl ⟨by rfl, ?_⟩) hHeld ?_
            rotate_left
            · intro w hSw; (try dsimp only at hSw); go_simp; first | with_reducible rfl | exact if_pos (show k ≤ vc by omega) | skip
            try simp only [Act.put, List.setIfInBounds_toArray, List.set_cons_zero, List.set_cons_succ]
            refine wpAnyH_take (i := 2) (oi := { dst := some 38, op := Op.slice 22 (Operand.tmp 36) none (some (Operand.tmp 37)) none, type := 22, pos := "ref.go:30", after := #[{ on := 0, ground := Ground.data }, { on := 1, ground := Ground.data }], guard := none }) (v := ?_) rfl (by kernel_rfl) (by kernel_rfl) (by kernel_rfl) (fun _ _ _ h => h) (Or.inl ⟨by rfl, ?_⟩) hHeld ?_
            rotate_left
            · intro w hSw; (try dsimp only at hSw); go_simp; first | with_reducible rfl | exact if_pos (show k ≤ vc by omega) | skip
            try simp only [Act.put, List.setIfInBounds_toArray, List.set_cons_zero, List.set_cons_succ]
            refine wpAnyH_take (i := 3) (oi := { dst := some 39, op := Op.move (Operand.tmp 0), type := 22, pos := "ref.go:30", after := #[], guard := none }) (v := ?_) rfl (by kernel_rfl) (by kernel_rfl) (by kernel_rfl) (fun _ _ _ h => h) (Or.inl ⟨by rfl, ?_⟩) hHeld ?_
            rotate_left
            · intro w hSw; (try dsimp only at hSw); go_simp; first | with_reducible rfl | exact if_pos (show k ≤ vc by omega) | skip
            try simp only [Act.put, List.setIfInBounds_toArray, List.set_cons_zero, List.set_cons_succ]
            refine wpAnyH_take (i := 4) (oi := { dst := some 40, op := Op.move (Operand.tmp 4), type := 3, pos := "ref.go:30", after := #[], guard := none }) (v := ?_) rfl (by kernel_rfl) (by kernel_rfl) (by kernel_rfl) (fun _ _ _ h => h) (Or.inl ⟨by rfl, ?_⟩) hHeld ?_
            rotate_left
            · intro w hSw; (try dsimp only at hSw); go_simp; first | with_reducible rfl | exact if_pos (show k ≤ vc by omega) | skip
            try simp only [Act.put, List.setIfInBounds_toArray, List.set_cons_zero, List.set_cons_succ]
            refine wpAnyH_take (i := 5) (oi := { dst := some 41, op := Op.indexAddr 22 (Operand.tmp 39) (Operand.tmp 40), type := 0, pos := "ref.go:30", after := #[{ on := 3, ground := Ground.data }, { on := 4, ground := Ground.data }], guard := none }) (v := ?_) rfl (by kernel_rfl) (by kernel_rfl) (by kernel_rfl) (fun _ _ _ h => h) (Or.inl ⟨by rfl, ?_⟩) hHeld ?_
            rotate_left
            · intro w hSw; (try dsimp only at hSw); go_simp; first | with_reducible rfl | exact if_pos (show k ≤ vc by omega) | skip
            try simp only [Act.put, List.setIfInBounds_toArray, List.set_cons_zero, List.set_cons_succ]
            refine wpAnyH_take (i := 6) (oi := { dst := some 42, op := Op.load 9 (Operand.tmp 41), type := 9, pos := "ref.go:30", after := #[{ on := 5, ground := Ground.data }], guard := none }) (v := ?_) rfl (by kernel_rfl) (by kernel_rfl) (by kernel_rfl) (fun _ _ _ h => h) (Or.inl ⟨by rfl, ?_⟩) hHeld ?_
            rotate_left
            · intro w hSw; (try dsimp only at hSw); go_simp; first | with_reducible rfl | exact if_pos (show k ≤ vc by omega) | skip
            try simp only [Act.put, List.setIfInBounds_toArray, List.set_cons_zero, List.set_cons_succ]
            refine wpAnyH_take (i := 9) (oi := { dst := some 45, op := Op.move (Operand.tmp 6), type := 22, pos := "ref.go:30", after := #[], guard := none }) (v := ?_) rfl (by kernel_rfl) (by kernel_rfl) (by kernel_rfl) (fun _ _ _ h => h) (Or.inl ⟨by rfl, ?_⟩) hHeld ?_
            rotate_left
            · intro w hSw; (try dsimp only at hSw); go_simp; first | with_reducible rfl | exact if_pos (show k ≤ vc by omega) | skip
            try simp only [Act.put, List.setIfInBounds_toArray, List.set_cons_zero, List.set_cons_succ]
            refine wpAnyH_ready (rs := [7]) (by kernel_rfl) (by simp) ?_
            refine AllReadyH.cons rfl (fun K hK => ?_) (AllReadyH.nil)
            go_simp
            have hB7 : Below w6.heap.size w6 (w6.alloc (.cells #[.string xs] 9)).drew := ((Below.refl _ w6).alloc (Nat.le_refl _) _).drew
            refine hK.out _ _ (HS9.out _ hB7) (fun hHeld => ?_)
            clear hK K
            try simp only [Act.put, List.setIfInBounds_toArray, List.set_cons_zero, List.set_cons_succ]
            refine wpAnyH_ready (rs := [8]) (by kernel_rfl) (by simp) ?_
            refine AllReadyH.cons rfl (fun K hK => ?_) (AllReadyH.nil)
            refine step_app_kd kS_ok (by rfl) (.tmp 38) (.tmp 43) (by rfl) w.heap.size (.slice (some ⟨g, 0, none⟩) k vc) (s.take k) (by rfl) (HT6.out.later hB7) w6.heap.size x (by rfl) (nm_rowD w6 xs x HXs.out) (by rw [HTl.out]; unfold maxLen; omega) (by rw [HTl.out]; show (k + 1) * 16 ≤ _; omega) (by have := hB7.size; omega) ?_
            intro b8 c8 W8 hO8 hG8 hL8
            rw [HTl.out] at hO8 ⊢
            obtain ⟨hR8, hS8, hb8⟩ := HR6.out _ W8 hB7 hG8
            have HO8 := hid hO8; have HR8 := hid hR8; have HB8 := hid hb8; clear hO8 hG8 hL8 hR8 hb8
            refine hK.out _ _ (hS8) (fun hHeld => ?_)
            clear hK K
            refine wpAnyH_ready (rs := [10]) (by kernel_rfl) (by simp) ?_
            refine AllReadyH.cons rfl (fun K hK => ?_) (AllReadyH.nil)
            refine step_app_ownK kS_ok (by rfl) (.tmp 44) (.tmp 45) (by rfl) w.heap.size WE.heap.size (.slice (some ⟨b8, 0, none⟩) (k + 1) c8) (.slice a6 n6 c6) (s.take k ++ [x]) (s.drop k) (by rfl) HO8.out (by rfl) HR8.out HLl.out HLb.out HB8.out.size ?_
            intro s9 W9 hs9 hO9 hG9
            have hb9 := HB8.out.grown hG9 HB8.out.size (fun kk hk => (HO8.out.block kk hk).1)
            have hS9 := (hb9.cell (p := ⟨b1, o1 + i, none⟩) hs0).trans HS0.out
            have HO9 := hid hO9; have HB9 := hid hb9; clear hO9 hG9 hb9
            obtain ⟨sa, sm, sc⟩ := s9
            have hsm : sm = i + 1 := hs9.trans HLs.out
            subst hsm; clear hs9
            unfold Sl.v at HO9 ⊢
            refine hK.out _ _ (hS9) (fun hHeld => ?_)
            clear hK K
            refine wpAnyH_take (i := 11) (oi := { dst := some 3, op := Op.assign (Operand.tmp 46), type := 22, pos := "ref.go:30", after := #[{ on := 10, ground := Ground.data }, { on := 10, ground := Ground.chain }, { on := 0, ground := Ground.phase }, { on := 1, ground := Ground.phase }, { on := 2, ground := Ground.phase }, { on := 3, ground := Ground.phase }, { on := 4, ground := Ground.phase }, { on := 5, ground := Ground.phase }, { on := 6, ground := Ground.phase }, { on := 7, ground := Ground.phase }, { on := 8, ground := Ground.phase }, { on := 9, ground := Ground.phase }, { on := 10, ground := Ground.phase }], guard := none }) (v := ?_) rfl (by kernel_rfl) (by kernel_rfl) (by kernel_rfl) (fun _ _ _ h => h) (Or.inl ⟨by rfl, ?_⟩) hHeld ?_
            rotate_left
            · intro w hSw; (try dsimp only at hSw); go_simp; first | with_reducible rfl | exact if_pos (show k ≤ vc by omega) | skip
            refine wpAnyH_done (by kernel_rfl) ?_ _
            go_wp2_with fail
            refine ⟨⟨i + 1, sa, sc, s.take k ++ [x] ++ s.drop k, by omega, by go_num, rfl, HB9.out.size, HO9, ?_, ins_sorted HSs.out (by rw [HSl.out]; exact hk) HLo.out HX.out, (by rw [HTk.out]; exact ins_perm k HSp.out), HB9⟩, by simp [intOf]; omega⟩
            show (s.take k ++ [x] ++ s.drop k).length = i + 1
            rw [List.length_append, HLs.out]
    · obtain rfl : m = i := by omega
      have HF : Hid (s = risN l) := risN_of HSs.out (by have h := HSp.out; rw [List.take_of_length_le (by rw [HL.out]; exact Nat.le_refl _)] at h; exact h)
      go_wp2_with fail
      go_ret
      exact ⟨_, rfl, by rw [← HF.out]; exact HO.out, HBl.out⟩
end Go.Proofs.Ytopbmopfahjhlaa
