/- Trim, Get, Sealed and Trimmed of a store that can be written; Put of too many bytes. -/
import Derived.Test.YtikomnbhmmjfnaaGreatSKnows
import Derived.Test.YtikomnbhmmjfnaaGreatSGet
import Derived.Test.YtikomnbhmmjfnaaGreatSTrimP
import Derived.Test.YtikomnbhmmjfnaaGreatSToldM
import Derived.Deep.RegionLaw
import Derived.Laws.ResultCell
import Derived.Deep.RegionHeld3
import Derived.Deep.RegionWith
namespace Go.Proofs.YtikomnbhmmjfnaaGreat
open Go.RowKit Go.Shelf
variable {w w' : World} {N S : Nat} {s : SSt}

set_option maxRecDepth 100000 in
set_option maxHeartbeats 1000000 in
theorem trimmed_pic {FD G : List Nat} {D X Y : Nat} {fx fy : Lit → Option Value} {A : Nat → Nat → Value} (h : SPic w FD G S D X Y fx fy A s) (i : Int) (h1 : -9223372036854775808 ≤ i) (h2 : i ≤ 9223372036854775807) : Calls Tryz.prog 19 #[.pointer (some ⟨S, 0, none⟩), .int .i64 i] w fun e w' => e = .returned (.int .i64 ((s.look i).trim : Nat)) ∧ Below w.heap.size w w' := by
  have hl := look_pic h i h1 h2
  unfold logV at hl
  have hf := fun W => (fld52 (.int .i64 ((s.look i).tail : Int)) (.int .i64 ((s.look i).trim : Int)) (.bool (s.look i).sealed) W).2.1
  clear h
  go_enter Tryz.func19, Tryz.ntmps19
  go_wp2_with (go_at_call 55; refine hl.mono ?_; rintro e w' ⟨rfl, hb⟩)
  go_ret
  exact ⟨rfl, hb⟩
theorem look_nat' (s : SSt) (i : Nat) : s.look (i : Int) = s.log i := by
  unfold SSt.look
  rw [if_pos (by omega)]
  simp
theorem SA.sealedC (h : SA N w S s) (i : Nat) (hi : i < 3) : Calls Tryz.prog 22 #[.pointer (some ⟨S, 0, none⟩), .int .i64 (i : Int)] w fun x w' => x = .returned (.bool (s.log i).sealed) ∧ Below w.heap.size w w' := by
  obtain ⟨⟨FD, G, D, X, Y, fx, fy, A, hp, _, _⟩, h3, h4⟩ := h
  have r := sealed_pic hp (i : Int) (by omega) (by omega)
  rw [look_nat'] at r
  exact r
theorem SA.trimmedC (h : SA N w S s) (i : Nat) (hi : i < 3) : Calls Tryz.prog 19 #[.pointer (some ⟨S, 0, none⟩), .int .i64 (i : Int)] w fun x w' => x = .returned (.int .i64 (((s.log i).trim : Nat) : Int)) ∧ Below w.heap.size w w' := by
  obtain ⟨⟨FD, G, D, X, Y, fx, fy, A, hp, _, _⟩, h3, h4⟩ := h
  have r := trimmed_pic hp (i : Int) (by omega) (by omega)
  rw [look_nat'] at r
  exact r
theorem SA.getC (h : SA N w S s) (i k : Nat) (hi : i < 3) : Calls Tryz.prog 14 #[.pointer (some ⟨S, 0, none⟩), .int .i64 (i : Int), .int .i64 (k : Int)] w (GPost w (getF s i k)) := by
  obtain ⟨⟨FD, G, D, X, Y, fx, fy, A, hp, _, _⟩, h3, h4⟩ := h
  exact get_pic hp (i : Int) (k : Int) (by omega) (by omega)
theorem SA.trim (h : SA N w S s) (hN : N ≤ w.heap.size) (l p : Int) (hl1 : -9223372036854775808 ≤ l) (hl2 : l ≤ 9223372036854775807) :
    Calls Tryz.prog 17 #[.pointer (some ⟨S, 0, none⟩), .int .i64 l, .int .i64 p] w fun x w' => x = .returned (.int .i64 (s.trim l p).1) ∧ SA N w' S (s.trim l p).2 ∧ Below N w w' := by
  obtain ⟨⟨FD, G, D, X, Y, fx, fy, A, hp, h1, h2⟩, h3, h4⟩ := h
  refine (trim_pic hp l p hl1 hl2 (fun x hx => by rw [h4 x hx]; simp)).mono ?_
  intro x w' hx
  exact hx.sa h1 h2 hN (trim_keeps h3 h4 l p)
/-- Put of more bytes than may be. -/
theorem SA.putBig (h : SA N w S s) (l p : Nat) (hl : l < 3) (hp : p < 6) (ad : Option Addr) (len cap : Nat) (data : List Nat) (hd : data.length = len) (hlen : 65536 < len) (repair : Bool) :
    Calls Tryz.prog 15 #[.pointer (some ⟨S, 0, none⟩), .int .i64 (l : Int), .int .i64 (p : Int), .slice ad len cap, .bool repair] w fun x w' => x = .returned (.int .i64 (s.put l p data repair).1) ∧ w' = w := by
  obtain ⟨⟨FD, G, D, X, Y, fx, fy, A, hpc, h1, h2⟩, h3, h4⟩ := h
  have hm := smade_pic hpc
  have hL : isLogletN (l : Int) = true := by simp [isLogletN]; omega
  have hP : isPlaceN (p : Int) = true := by simp [isPlaceN]; omega
  have e : s.put l p data repair = (6, s) := by
    unfold SSt.put
    rw [hL, hP]
    simp only [Bool.and_self, if_true]
    rw [if_pos (by omega)]
  rw [e]
  have hlen' : (65536 : Int) < (len : Int) := by omega
  clear hpc h1 h2 h3 h4 e
  go_enter Tryz.func15, Tryz.ntmps15
  go_wp2_with (first
    | (go_at_call 47; refine hm.mono ?_; rintro e w' ⟨rfl, hw'⟩; obtain rfl := hw'.symm)
    | (go_at_call 48; refine (isLoglet_any _ _).mono ?_; rintro e w' ⟨rfl, hw'⟩; obtain rfl := hw'.symm; rw [hL])
    | (go_at_call 49; refine (isPlace_any _ _).mono ?_; rintro e w' ⟨rfl, hw'⟩; obtain rfl := hw'.symm; rw [hP]))
  all_goals go_ret
  all_goals exact ⟨rfl, rfl⟩
end Go.Proofs.YtikomnbhmmjfnaaGreat

/- look of the statements of layer 4: what a store that can be written tells. -/
namespace Go.Proofs.YtikomnbhmmjfnaaGreat
open Go.RowKit Go.Shelf Crcm
variable {w w' : World} {N S : Nat} {s : SSt}

abbrev TT : TypeId := 66
def zT : Array Value := #[.string ⟨#[]⟩, .string ⟨#[]⟩, .string ⟨#[]⟩, .string ⟨#[]⟩, .string ⟨#[]⟩, .string ⟨#[]⟩, .string ⟨#[]⟩, .string ⟨#[]⟩, .string ⟨#[]⟩, .string ⟨#[]⟩, .string ⟨#[]⟩, .string ⟨#[]⟩, .string ⟨#[]⟩, .string ⟨#[]⟩, .string ⟨#[]⟩, .string ⟨#[]⟩, .string ⟨#[]⟩, .string ⟨#[]⟩, .bool false, .bool false, .bool false, .bool false, .bool false, .bool false, .bool false, .bool false, .bool false, .bool false, .bool false, .bool false, .bool false, .bool false, .bool false, .bool false, .bool false, .bool false, .bool false, .bool false, .bool false, .int .i64 0, .int .i64 0, .int .i64 0]
theorem zcT : zT = (toldL t0).toArray := by kernel_rfl
theorem sizeT (t : Tld) : (Tryz.prog.info? 66).map (·.size) = some (toldL t).length := by rw [toldL_len]; kernel_rfl
/-- look in its midst: its box, behind its result's. -/
structure LKt (w : World) (t : Tld) (W : World) : Prop where
  box : Blk W (w.heap.size + 1) (toldL t).toArray TT
  res : Blk W w.heap.size (toldL t0).toArray TT
  below : Below w.heap.size w W
variable {t : Tld} {W : World}
theorem LKt.later (h : LKt w t W) (hb : Below W.heap.size W w') : LKt w t w' := ⟨h.box.later hb, h.res.later hb, h.below.trans (hb.mono h.below.size)⟩
theorem LKt.eq {u : Tld} (h : LKt w t W) (e : toldL t = toldL u) : LKt w u W := ⟨e ▸ h.box, h.res, h.below⟩
theorem LKt.cell (h : LKt w t W) (p : Nat) (hp : p < 42) : W.cell? ⟨w.heap.size + 1, p, none⟩ = some (cellT t p) := by
  rw [h.box.cell p, List.getElem?_toArray, toldL_at _ p hp]
theorem LKt.set {u : Tld} (h : LKt w t W) (p : Nat) (v : Value) (e : (toldL t).set p v = toldL u) : LKt w u (W.setCell ⟨w.heap.size + 1, p, none⟩ v) := by
  refine ⟨?_, h.res.other (by omega) p v, h.below.setCell (p := ⟨w.heap.size + 1, p, none⟩) (Nat.le_succ _) _⟩
  have hb := h.box.set p v
  rw [List.setIfInBounds_toArray, e] at hb
  exact hb
theorem getF_cases (s : SSt) (i k : Nat) (hi : i < 3) (hk : k < 6) : (getF s i k = ([], 32) ∧ k < (s.log i).trim) ∨ (∃ d, getF s i k = (d, 0)) ∨ getF s i k = ([], 3) := by
  unfold getF
  rw [get_nat s i k (by omega) (by omega)]
  split
  · exact Or.inl ⟨rfl, by assumption⟩
  · cases s.slots i k with
    | none => exact Or.inr (Or.inr rfl)
    | some d => exact Or.inr (Or.inl ⟨d, rfl⟩)
theorem part_setT {w : World} {p : Part} {B i : Nat} {v : Value} (h : p.ok w) (hne : ∀ b off, p.ad = some ⟨b, off, none⟩ → b ≠ B) : p.ok (w.setCell ⟨B, i, none⟩ v) := by
  refine ⟨h.1, h.2.1, h.2.2.1, ?_⟩
  rcases h.2.2.2 with h0 | ⟨b, off, e, hlt, hc⟩
  · exact Or.inl h0
  · refine Or.inr ⟨b, off, e, by simpa [World.setCell] using hlt, fun k hk => ?_⟩
    have hb : (w.setCell ⟨B, i, none⟩ v).heap[b]? = w.heap[b]? := Below.heap_setCell _ _ _ _ (hne b off e)
    have h2 := hc k hk
    simp only [World.cell?, hb] at h2 ⊢
    exact h2
theorem own_apart {w : World} {base B : Nat} {v : Value} {l : List Nat} (h : Own w base v l) (n : Nat) (hn : l.length = n) (hB : B < base) : ∃ ad cap, v = .slice ad n cap ∧ Part.ok w ⟨ad, n, cap, l⟩ ∧ ∀ b off, ad = some ⟨b, off, none⟩ → b ≠ B := by
  obtain ⟨ad, cap, hv, hp, -⟩ := h.slice n hn
  refine ⟨ad, cap, hv, hp, fun b off e => ?_⟩
  rcases h.2.2 with ⟨h1, -⟩ | ⟨g, c, cur, h1, h2, -⟩
  · rw [hv] at h1; cases h1; cases e
  · rw [hv] at h1; cases h1; cases e; omega
theorem ret_told {fn : Func} {p u : Tmp} (h : fn.results = #[.cell p TT, .tmp u]) (tmps : Array Value) (w : World) (B : Nat) (t : Tld)
    (hp : tmps.getD p undef = .pointer (some ⟨B, 0, none⟩)) (hg : Blk w B (toldL t).toArray TT) :
    (results fn tmps).run Tryz.prog w = .ok (.tuple #[.agg (toldL t).toArray, tmps.getD u undef]) w := by
  rw [results_cell_tmp h, hp]
  have hl := run_loadVar_cells (P := Tryz.prog) w TT _ Tryz.underlying66 rfl (toldL t) (sizeT t) B 0 (fun j hj => by rw [Nat.zero_add, hg.cell j, List.getElem?_toArray])
  simp only [asAddr, Sem.run_pure, Result.andThen_ok]
  rw [hl]
  rfl
theorem told_row (t u : Tld) : (toldL t ++ List.drop (toldL t).length (toldL u)).toArray = (toldL t).toArray := by
  rw [List.drop_of_length_le (by rw [toldL_len, toldL_len]; omega), List.append_nil]
theorem below_row {M : Nat} {w0 w : World} (h : Below M w0 w) {g : Nat} (hg : M ≤ g) (cs : Array Value) : Below M w0 (w.setRow g cs) :=
  ⟨h.os, h.tape, h.output, by simpa [World.setRow] using h.size, fun k hk => (setRow_other w g k cs (by omega)).trans (h.block k hk)⟩
set_option maxRecDepth 100000 in
set_option maxHeartbeats 8000000 in
theorem look_any (h : SA N w S s) : Calls Tryz.prog 28 #[.pointer (some ⟨S, 0, none⟩)] w fun x w' => x = .returned (.tuple #[.agg (toldL (toldOf s)).toArray, .bool true]) ∧ Below w.heap.size w w' := by
  have HSE : Hid (∀ (n : Nat) (W : World), n < 3 → Below w.heap.size w W → Calls Tryz.prog 22 #[.pointer (some ⟨S, 0, none⟩), .int .i64 (n : Int)] W fun x w' => x = .returned (.bool (s.log n).sealed) ∧ Below W.heap.size W w') := hide (fun n W hn hW => (h.later hW).sealedC n hn)
  have HTR : Hid (∀ (n : Nat) (W : World), n < 3 → Below w.heap.size w W → Calls Tryz.prog 19 #[.pointer (some ⟨S, 0, none⟩), .int .i64 (n : Int)] W fun x w' => x = .returned (.int .i64 (((s.log n).trim : Nat) : Int)) ∧ Below W.heap.size W w') := hide (fun n W hn hW => (h.later hW).trimmedC n hn)
  have HGE : Hid (∀ (n m : Nat) (W : World), n < 3 → Below w.heap.size w W → Calls Tryz.prog 14 #[.pointer (some ⟨S, 0, none⟩), .int .i64 (n : Int), .int .i64 (m : Int)] W (GPost W (getF s n m))) := hide (fun n m W hn hW => (h.later hW).getC n m hn)
  have L0 : Hid (LKt w (partT s 0 0 0) ((w.alloc (.cells zT TT)).alloc (.cells zT TT))) := hide ⟨by
      rw [zcT, ← part_first, show w.heap.size + 1 = (w.alloc (.cells (toldL t0).toArray TT)).heap.size by simp]; exact heap_alloc_last _ _, by
      rw [zcT]; exact Blk.later (w := w.alloc (.cells (toldL t0).toArray TT)) (heap_alloc_last w _) ((Below.refl _ _).alloc (Nat.le_refl _) _), ((Below.refl _ w).alloc (Nat.le_refl _) _).alloc (by simp) _⟩
  clear h
  go_enter Tryz.func28, Tryz.ntmps28
  go_wp2_with fail
  go_loopw [5] (fun i wr => ∃ n : Nat, n ≤ 3 ∧ i = .int .i64 n ∧ Hid (LKt w (partT s n 0 n) wr)) (fun i _ => 3 - (intOf i).toNat)
  case atStart => exact ⟨0, by omega, rfl, L0⟩
  case round =>
    obtain ⟨n, hn, rfl, HL⟩ := hrel
    clear L0
    by_cases h3 : n < 3
    · have HSn := hide (HSE.out n wr h3 HL.out.below)
      have HTn := hide (fun W hW => HTR.out n W h3 hW)
      go_wp2_with (first
        | (go_at_call 22; (with_reducible_and_instances (refine HSn.out.mono ?_)); rintro x w1 ⟨rfl, b1⟩; have L1 := hide (HL.out.later b1); have c1 := (L1.out.cell (36 + n) (by omega)); have f1 := (L1.out.box.free (36 + n)); have L2 : Hid (LKt w ((partT s n 0 n).setSealed n (s.log n).sealed) (w1.setCell ⟨w.heap.size + 1, 36 + n, none⟩ (.bool (s.log n).sealed))) := hide (L1.out.set (36 + n) _ (toldL_setSealed _ n _ h3)); have HT2 := hide (HTn.out _ L2.out.below); clear b1 HSn L1)
        | (go_at_call 19; (with_reducible_and_instances (refine HT2.out.mono ?_)); rintro x w3 ⟨rfl, b3⟩; have L3 := hide (L2.out.later b3); have c3 := (L3.out.cell (39 + n) (by omega)); have f3 := (L3.out.box.free (39 + n)); have L4 : Hid (LKt w (partT s n 0 (n + 1)) (w3.setCell ⟨w.heap.size + 1, 39 + n, none⟩ (.int .i64 (((s.log n).trim : Nat) : Int)))) := hide ((L3.out.set (39 + n) _ (toldL_setTrim _ n _ h3)).eq (part_row s n)); clear b3 HTn HT2 L2 L3 c1 f1))
      clear c3 f3
      go_loopw [6] (fun k wr => ∃ m : Nat, m ≤ 6 ∧ k = .int .i64 m ∧ Hid (LKt w (partT s n m (n + 1)) wr)) (fun k _ => 6 - (intOf k).toNat)
      case atStart => exact ⟨0, by omega, rfl, L4⟩
      case round =>
        obtain ⟨m, hm, rfl, HM⟩ := hrel
        clear L4
        by_cases h6 : m < 6
        · have HGn := hide (HGE.out n m _ h3 HM.out.below)
          rcases getF_cases s n m h3 h6 with ⟨hr, htr⟩ | ⟨d, hr⟩ | hr
          · rw [hr] at HGn
            have HNX : Hid (toldL (((partT s n m (n + 1)).setThere n m false).setDat n m []) = toldL (partT s n (m + 1) (n + 1))) := hide (by have e := part_next s n m; rw [hr] at e; exact e)
            clear hr
            obtain ⟨ll, hll⟩ : ∃ ll, ([] : List Nat).length = ll := ⟨_, rfl⟩
            go_wp2_with (first
              | (go_at_call 14; (with_reducible_and_instances (refine HGn.out.mono ?_)); rintro x w5 ⟨v, rfl, o5, b5⟩; obtain ⟨pu, cu, hu, hpu, hne⟩ := own_apart o5 ll hll HM.out.box.lt; subst hu; have L5 := hide (HM.out.later b5); have P5 := hide hpu; have N5 := hide hne; clear o5 b5 hpu hne HGn))
            have c5 := L5.out.cell (18 + n * 6 + m) (by omega)
            have f5 := L5.out.box.free (18 + n * 6 + m)
            go_region_held3 (fun _ => True) (trivial) ((go_at_call 13; refine (num4_any _ _).mono ?_; rintro x w' ⟨rfl, hw'⟩; obtain rfl := hw'.symm))
            obtain ⟨W6, hW6⟩ : ∃ W6, (w5.setCell ⟨w.heap.size + 1, 18 + n * 6 + m, none⟩ (.bool false)).drew = W6 := ⟨_, rfl⟩
            have L6 : Hid (LKt w ((partT s n m (n + 1)).setThere n m false) W6) := hide (by rw [← hW6]; exact (L5.out.set _ _ (toldL_setThere _ n m false h3 h6)).later (Below.refl _ _).drew)
            have P6 : Part.ok W6.drew ⟨pu, ll, cu, []⟩ := by rw [← hW6]; exact ((part_setT P5.out N5.out).later (Below.refl _ _).drew).later (Below.refl _ _).drew
            have kc := conv_any P6.2.2 ll cu P6.1
            rw [hW6]
            clear hW6 c5 f5 P6 L5 P5 N5
            simp only at kc
            obtain ⟨tx, htx⟩ : ∃ tx, bstr [] = tx := ⟨_, rfl⟩
            rw [htx] at kc
            have c6 := L6.out.cell (n * 6 + m) (by omega)
            have f6 := L6.out.box.free (n * 6 + m)
            have L7 : Hid (LKt w (partT s n (m + 1) (n + 1)) (W6.setCell ⟨w.heap.size + 1, n * 6 + m, none⟩ (.string tx)).drew) := hide (((by rw [← htx]; exact L6.out.set _ _ (toldL_setDat _ n m [] h3 h6) : LKt w (((partT s n m (n + 1)).setThere n m false).setDat n m []) (W6.setCell ⟨w.heap.size + 1, n * 6 + m, none⟩ (.string tx))).later (Below.refl _ _).drew).eq HNX.out)
            clear htx HNX L6
            go_wp2_with fail
            go_region_law (fail)
            have c7 : (W6.setCell ⟨w.heap.size + 1, n * 6 + m, none⟩ (.string tx)).drew.cell? ⟨w.heap.size + 1, 39 + n, none⟩ = some (.int .i64 (((s.log n).trim : Nat) : Int)) := by
              rw [L7.out.cell (39 + n) (by omega), cellT_trim]
              simp only [partT, partG]
              rw [if_pos (Nat.lt_succ_self _)]
            clear c6 f6 kc
            have htr1 : decide ((s.log n).trim ≤ m) = false := decide_eq_false (by omega)
            go_wp2_with (first
              | (go_at_call 13; refine (num4_any _ _).mono ?_; rintro x w' ⟨rfl, hw'⟩; obtain rfl := hw'.symm))
            go_roundw
            case rel => exact ⟨m + 1, by omega, rfl, L7⟩
            case measure => simp [intOf]; omega
          · rw [hr] at HGn
            have HNX : Hid (toldL (((partT s n m (n + 1)).setThere n m true).setDat n m d) = toldL (partT s n (m + 1) (n + 1))) := hide (by have e := part_next s n m; rw [hr] at e; exact e)
            clear hr
            obtain ⟨ll, hll⟩ : ∃ ll, (d : List Nat).length = ll := ⟨_, rfl⟩
            go_wp2_with (first
              | (go_at_call 14; (with_reducible_and_instances (refine HGn.out.mono ?_)); rintro x w5 ⟨v, rfl, o5, b5⟩; obtain ⟨pu, cu, hu, hpu, hne⟩ := own_apart o5 ll hll HM.out.box.lt; subst hu; have L5 := hide (HM.out.later b5); have P5 := hide hpu; have N5 := hide hne; clear o5 b5 hpu hne HGn))
            have c5 := L5.out.cell (18 + n * 6 + m) (by omega)
            have f5 := L5.out.box.free (18 + n * 6 + m)
            go_region_held3 (fun _ => True) (trivial) ((go_at_call 13; refine (num4_any _ _).mono ?_; rintro x w' ⟨rfl, hw'⟩; obtain rfl := hw'.symm))
            obtain ⟨W6, hW6⟩ : ∃ W6, (w5.setCell ⟨w.heap.size + 1, 18 + n * 6 + m, none⟩ (.bool true)).drew = W6 := ⟨_, rfl⟩
            have L6 : Hid (LKt w ((partT s n m (n + 1)).setThere n m true) W6) := hide (by rw [← hW6]; exact (L5.out.set _ _ (toldL_setThere _ n m true h3 h6)).later (Below.refl _ _).drew)
            have P6 : Part.ok W6.drew ⟨pu, ll, cu, d⟩ := by rw [← hW6]; exact ((part_setT P5.out N5.out).later (Below.refl _ _).drew).later (Below.refl _ _).drew
            have kc := conv_any P6.2.2 ll cu P6.1
            rw [hW6]
            clear hW6 c5 f5 P6 L5 P5 N5
            simp only at kc
            obtain ⟨tx, htx⟩ : ∃ tx, bstr d = tx := ⟨_, rfl⟩
            rw [htx] at kc
            have c6 := L6.out.cell (n * 6 + m) (by omega)
            have f6 := L6.out.box.free (n * 6 + m)
            have L7 : Hid (LKt w (partT s n (m + 1) (n + 1)) (W6.setCell ⟨w.heap.size + 1, n * 6 + m, none⟩ (.string tx)).drew) := hide (((by rw [← htx]; exact L6.out.set _ _ (toldL_setDat _ n m d h3 h6) : LKt w (((partT s n m (n + 1)).setThere n m true).setDat n m d) (W6.setCell ⟨w.heap.size + 1, n * 6 + m, none⟩ (.string tx))).later (Below.refl _ _).drew).eq HNX.out)
            clear htx HNX L6
            go_wp2_with fail
            go_region_law (fail)
            have c7 : (W6.setCell ⟨w.heap.size + 1, n * 6 + m, none⟩ (.string tx)).drew.cell? ⟨w.heap.size + 1, 39 + n, none⟩ = some (.int .i64 (((s.log n).trim : Nat) : Int)) := by
              rw [L7.out.cell (39 + n) (by omega), cellT_trim]
              simp only [partT, partG]
              rw [if_pos (Nat.lt_succ_self _)]
            clear c6 f6 kc
            go_wp2_with (first
              | (go_at_call 13; refine (num4_any _ _).mono ?_; rintro x w' ⟨rfl, hw'⟩; obtain rfl := hw'.symm))
            go_roundw
            case rel => exact ⟨m + 1, by omega, rfl, L7⟩
            case measure => simp [intOf]; omega
          · rw [hr] at HGn
            have HNX : Hid (toldL (((partT s n m (n + 1)).setThere n m false).setDat n m []) = toldL (partT s n (m + 1) (n + 1))) := hide (by have e := part_next s n m; rw [hr] at e; exact e)
            clear hr
            obtain ⟨ll, hll⟩ : ∃ ll, ([] : List Nat).length = ll := ⟨_, rfl⟩
            go_wp2_with (first
              | (go_at_call 14; (with_reducible_and_instances (refine HGn.out.mono ?_)); rintro x w5 ⟨v, rfl, o5, b5⟩; obtain ⟨pu, cu, hu, hpu, hne⟩ := own_apart o5 ll hll HM.out.box.lt; subst hu; have L5 := hide (HM.out.later b5); have P5 := hide hpu; have N5 := hide hne; clear o5 b5 hpu hne HGn))
            have c5 := L5.out.cell (18 + n * 6 + m) (by omega)
            have f5 := L5.out.box.free (18 + n * 6 + m)
            go_region_held3 (fun _ => True) (trivial) ((go_at_call 13; refine (num4_any _ _).mono ?_; rintro x w' ⟨rfl, hw'⟩; obtain rfl := hw'.symm))
            obtain ⟨W6, hW6⟩ : ∃ W6, (w5.setCell ⟨w.heap.size + 1, 18 + n * 6 + m, none⟩ (.bool false)).drew = W6 := ⟨_, rfl⟩
            have L6 : Hid (LKt w ((partT s n m (n + 1)).setThere n m false) W6) := hide (by rw [← hW6]; exact (L5.out.set _ _ (toldL_setThere _ n m false h3 h6)).later (Below.refl _ _).drew)
            have P6 : Part.ok W6.drew ⟨pu, ll, cu, []⟩ := by rw [← hW6]; exact ((part_setT P5.out N5.out).later (Below.refl _ _).drew).later (Below.refl _ _).drew
            have kc := conv_any P6.2.2 ll cu P6.1
            rw [hW6]
            clear hW6 c5 f5 P6 L5 P5 N5
            simp only at kc
            obtain ⟨tx, htx⟩ : ∃ tx, bstr [] = tx := ⟨_, rfl⟩
            rw [htx] at kc
            have c6 := L6.out.cell (n * 6 + m) (by omega)
            have f6 := L6.out.box.free (n * 6 + m)
            have L7 : Hid (LKt w (partT s n (m + 1) (n + 1)) (W6.setCell ⟨w.heap.size + 1, n * 6 + m, none⟩ (.string tx)).drew) := hide (((by rw [← htx]; exact L6.out.set _ _ (toldL_setDat _ n m [] h3 h6) : LKt w (((partT s n m (n + 1)).setThere n m false).setDat n m []) (W6.setCell ⟨w.heap.size + 1, n * 6 + m, none⟩ (.string tx))).later (Below.refl _ _).drew).eq HNX.out)
            clear htx HNX L6
            go_wp2_with fail
            go_region_law (fail)
            have c7 : (W6.setCell ⟨w.heap.size + 1, n * 6 + m, none⟩ (.string tx)).drew.cell? ⟨w.heap.size + 1, 39 + n, none⟩ = some (.int .i64 (((s.log n).trim : Nat) : Int)) := by
              rw [L7.out.cell (39 + n) (by omega), cellT_trim]
              simp only [partT, partG]
              rw [if_pos (Nat.lt_succ_self _)]
            clear c6 f6 kc
            go_wp2_with (first
              | (go_at_call 13; refine (num4_any _ _).mono ?_; rintro x w' ⟨rfl, hw'⟩; obtain rfl := hw'.symm))
            go_roundw
            case rel => exact ⟨m + 1, by omega, rfl, L7⟩
            case measure => simp [intOf]; omega
        · obtain rfl : m = 6 := by omega
          go_wp2_with fail
          go_roundw
          case rel => exact ⟨n + 1, by omega, rfl, hide (HM.out.eq (part_round s n))⟩
          case measure => simp [intOf]; omega
    · obtain rfl : n = 3 := by omega
      have L5 := hide (HL.out.eq (part_last s))
      go_wp2_with (first
        | (refine load_wide rfl TT _ rfl _ Tryz.underlying66 rfl (toldL (toldOf s)) (sizeT _) (w.heap.size + 1) 0 rfl (fun j hj => by rw [Nat.zero_add, L5.out.box.cell j, List.getElem?_toArray]) ?_)
        | (refine store_wide rfl TT _ _ rfl (toldL (toldOf s)) (sizeT _) w.heap.size 0 rfl rfl TT _ L5.out.res (by rw [Nat.zero_add, toldL_len, List.size_toArray, toldL_len]; omega) (toldL_one _) ?_))
      rw [told_row]
      refine bodyPost_ret (ret_told Tryz.results28 _ _ w.heap.size (toldOf s) rfl (setRow_heap _ _ _ _ _ _ L5.out.res)) rfl ⟨rfl, below_row L5.out.below (Nat.le_refl _) _⟩
end Go.Proofs.YtikomnbhmmjfnaaGreat
