/- slices.DeleteFunc of names that are the call's own, over any function that tells names apart and only reads. silent and decideExpire of package group (by gensil15.py). -/
import Derived.Test.YtipgociofjokeaaGreatGRise
import Derived.Lib.OwnBridge
import Derived.Test.YtipgociofjokeaaGreatPGDec
import Derived.Deep.RegionHeld3
import Derived.OrdersHeld
namespace Go.Proofs.YtipgociofjokeaaGreat
open Go.RowKit Go.Shelf Go.Sort Go.Lib
variable {w w' : World}

/-- Names that a map may have for keys. -/
abbrev NmB := {s : Nm // s.length ≤ maxLen}
instance : Inhabited NmB := ⟨⟨[], Nat.zero_le _⟩⟩
def encB (x : NmB) : Value := .string (nmS x.1)
def toB (s : Nm) : NmB := if h : s.length ≤ maxLen then ⟨s, h⟩ else default
theorem toB_val {s : Nm} (h : s.length ≤ maxLen) : (toB s).1 = s := by unfold toB; rw [dif_pos h]
theorem encB_map {ks : List Nm} (h : ∀ s ∈ ks, s.length ≤ maxLen) : (ks.map toB).map encB = ks.map encStr := by
  rw [List.map_map]
  refine List.map_congr_left (fun s hs => ?_)
  show Value.string (nmS (toB s).1) = _
  rw [toB_val (h s hs)]
  rfl
theorem filter_B {ks : List Nm} (h : ∀ s ∈ ks, s.length ≤ maxLen) (p : Nm → Bool) : (ks.map toB).filter (fun x => !p x.1) = (ks.filter (fun s => !p s)).map toB := by
  rw [List.filter_map]
  congr 1
  refine List.filter_congr (fun s hs => ?_)
  show (!p (toB s).1) = _
  rw [toB_val (h s hs)]
theorem deleteF_own {base : Nat} {v : Value} {ks : List Nm} (h : OwnK kS w base v ks) (hb : ∀ s ∈ ks, s.length ≤ maxLen) (hl : ks.length ≤ 1048576) (hbs : base ≤ w.heap.size) (p : Nm → Bool) (gf : Nat) (lb : Array Value) (eg : ∀ args w, (callFunc gf args).run Tryz.prog w = .ok (.enter gf args) w)
    (hp : ∀ W s, s.length ≤ maxLen → Below base w W → FnGives Tryz.prog gf lb #[.string (nmS s)] (.bool (p s)) W) :
    Calls Tryz.prog 58 #[v, .func (.func gf) #[] lb] w fun e w' => ∃ v', e = .returned v' ∧ OwnK kS w' base v' (ks.filter (fun s => !p s)) ∧ Below base w w' := by
  rcases h.2 with ⟨rfl, h0⟩ | ⟨g, cap, cur, rfl, hgb, hg, h1, h2, h3, h4⟩
  · have hk : ks = [] := List.eq_nil_of_length_eq_zero h0
    subst hk
    have HI := hid (show Calls Tryz.prog 83 #[.slice none 0 0, .func (.func gf) #[] lb] w _ from AnyE.slices_IndexFunc_empty { Tryz.deleteF with } none 0 (.func (.func gf) #[] lb) w)
    clear h hp h0
    go_enter Tryz.func58, Tryz.ntmps58
    go_wp2_with (go_at_call 83; (with_reducible_and_instances (refine HI.out.mono ?_)); rintro e w1 ⟨rfl, hw1⟩; obtain rfl := hw1.symm)
    go_ret
    exact ⟨_, rfl, OwnK.nil _ _, Below.refl _ _⟩
  · have hO : OneCell encB := fun x => rfl
    have h4' := h4
    rw [Vs_S, show kS.sz = 1 from rfl, Nat.mul_one] at h4'
    have hH0 := holds_of_block hg h4'
    have hH : Holds encB w g 0 (ks.map toB).toArray := fun j hj => by
      have hj' : j < ks.length := by simpa using hj
      obtain ⟨c1, c2⟩ := hH0 j (by simpa using hj')
      refine ⟨c1.trans ?_, c2⟩
      have e1 : ks.toArray[j]! = ks[j] := by simp [getElem!_pos, hj']
      have e2 : (ks.map toB).toArray[j]! = toB ks[j] := by simp [getElem!_pos, hj']
      rw [e1, e2]
      show some (Value.string (nmS ks[j])) = some (Value.string (nmS (toB ks[j]).1))
      rw [toB_val (hb _ (List.getElem_mem hj'))]
    have hsz : (ks.map toB).toArray.size = ks.length := by simp
    have hgl : g < w.heap.size := (Array.getElem?_eq_some_iff.1 hg).1
    have hcon := AnyE.slices_DeleteFunc Tryz.deleteF encB hO (fun x => p x.1) gf lb eg default (fun W => Tryz.zeroValue9 W) g 0 cap (ks.map toB).toArray w
      (fun W x hW => hp W x.1 x.2 (hW.mono hbs)) (fun q os dk x hdk => hp _ x.1 x.2 (by
        unfold sortWorld
        have b1 : Below base w (putRow encB (Sort.ahead w q) g 0 dk) := Go.Lib.below_putRow (Below.refl _ _) hgb
        refine ⟨b1.os, b1.tape, b1.output, ?_, fun k hk => ?_⟩
        · exact Nat.le_trans b1.size (by show _ ≤ (_ ++ os).size; rw [Array.size_append]; omega)
        · rw [Sort.heap_grow_old _ _ (by rw [size_putRow]; exact Nat.lt_of_lt_of_le hk hbs)]
          exact b1.block k hk)) hH (by rw [hsz]; omega) (by rw [hsz]; exact h1)
    rw [hsz] at hcon
    refine (show Calls Tryz.prog 58 #[.slice (some ⟨g, 0, none⟩) ks.length cap, .func (.func gf) #[] lb] w _ from hcon).mono ?_
    rintro e w' ⟨rfl, q, rfl⟩
    refine ⟨_, rfl, ?_, Go.Lib.below_putRow (Below.refl _ _) hgb⟩
    rw [show (ks.map toB).toArray.toList = ks.map toB by simp, filter_B hb, List.length_map]
    obtain ⟨fs, hfs⟩ : ∃ fs, ks.filter (fun s => !p s) = fs := ⟨_, rfl⟩
    rw [hfs]
    have hle : fs.length ≤ ks.length := by rw [← hfs]; exact List.length_filter_le _ _
    have hfb : ∀ s ∈ fs, s.length ≤ maxLen := fun s hs => by rw [← hfs] at hs; exact hb s (List.mem_filter.1 hs).1
    have h5 : w.ownsRow base 9 1 (.slice (some ⟨g, 0, none⟩) ks.length cap) ks.length ((ks.map toB).map encB) := by
      rw [encB_map hb, ← Vs_S]
      exact h
    have h6 := Go.Lib.ownsRow_putRow (q := q) (ys := fs.map toB ++ List.replicate (ks.length - fs.length) default) h5 (by simp; omega) hle
    have h7 : (fs.map toB ++ List.replicate (ks.length - fs.length) (default : NmB)).take fs.length = fs.map toB := by
      rw [List.take_append_of_le_length (by simp), List.take_of_length_le (by simp)]
    rw [h7, encB_map hfb, ← Vs_S] at h6
    exact h6
end Go.Proofs.YtipgociofjokeaaGreat
namespace Go.Proofs.YtipgociofjokeaaGreat
open Go.RowKit Go.Shelf
variable {w w' W : World} {g M1 M2 M3 n : Nat} {A : Nm → Sl} {pv : Value} {G : Gp} {F : List Nat}

theorem GOk.heardIn {k : Nat} (ho : GOk k G) (s : Nm) : 0 ≤ G.heard s ∧ G.heard s < 281474976710656 := by
  unfold Gp.heard
  cases hm : G.mem s with
  | none => show (0 : Int) ≤ 0 ∧ (0 : Int) < 281474976710656; omega
  | some mb => exact ho.heard s mb hm
set_option maxRecDepth 100000 in
set_option maxHeartbeats 1000000 in
theorem silent1_any (h : GP W F g M1 M2 M3 n A pv G) {kk : Nat} (ho : GOk kk G) {B1 B2 : Nat} {now : Int} (c1 : W.cell? ⟨B1, 0, none⟩ = some (.pointer (some ⟨g, 0, none⟩))) (c2 : W.cell? ⟨B2, 0, none⟩ = some (.int .i64 now)) (s : Nm) (hs : s.length ≤ maxLen) :
    Calls Tryz.prog 59 #[.string (nmS s), .pointer (some ⟨B1, 0, none⟩), .pointer (some ⟨B2, 0, none⟩)] W fun e w' => e = .returned (.bool (decide (now < G.heard s + G.sess))) ∧ ∃ q, w' = W.drewN q := by
  have hh := ho.heardIn s
  have hse := ho.sess
  have c3 := h.box.cell 3
  have c4 := h.box.cell 1
  simp only [List.getElem?_toArray, List.getElem?_cons_zero, List.getElem?_cons_succ] at c3 c4
  have hl := (h.later (Below.refl _ W).drew).look s hs
  obtain ⟨t, ht⟩ : ∃ t, nmS s = t := ⟨_, rfl⟩
  obtain ⟨hd, hhd⟩ : ∃ z, G.heard s = z := ⟨_, rfl⟩
  obtain ⟨gs, hgs⟩ : ∃ z, G.sess = z := ⟨_, rfl⟩
  generalize slOf G A s = sl at *
  obtain ⟨sa, sm, sc⟩ := sl
  dsimp only at hl
  rw [ht, hhd] at hl
  rw [hhd] at hh
  rw [hgs] at hse c4
  rw [ht, hhd, hgs]
  have hw : IntKind.i64.wrap (hd + gs) = hd + gs := by rw [IntKind.wrap_i64]; omega
  have hfl : ∀ w, (Instr.field 57 (.agg #[.int .i64 hd, .slice sa sm sc]) 0).run Tryz.prog w = .ok (.int .i64 hd) w := fun _ => by kernel_rfl
  have HS : Hid (W.drew.cell? ⟨B1, 0, none⟩ = some (.pointer (some ⟨g, 0, none⟩)) ∧ W.drew.cell? ⟨B2, 0, none⟩ = some (.int .i64 now) ∧ W.drew.cell? ⟨g, 3, none⟩ = some (.map (some M1)) ∧ W.drew.cell? ⟨g, 1, none⟩ = some (.int .i64 gs) ∧ (Instr.lookup TMb (.map (some M1)) (.string t) false).run Tryz.prog W.drew = .ok (.agg #[.int .i64 hd, .slice sa sm sc]) W.drew) := ⟨c1, c2, c3, c4, hl⟩
  clear h ho c1 c2 c3 c4 hl
  go_enter Tryz.func59, Tryz.ntmps59
  go_wp2_with fail
  refine wp_region_held_drew (S := fun W => W.cell? ⟨B1, 0, none⟩ = some (.pointer (some ⟨g, 0, none⟩)) ∧ W.cell? ⟨B2, 0, none⟩ = some (.int .i64 now) ∧ W.cell? ⟨g, 3, none⟩ = some (.map (some M1)) ∧ W.cell? ⟨g, 1, none⟩ = some (.int .i64 gs) ∧ (Instr.lookup TMb (.map (some M1)) (.string t) false).run Tryz.prog W = .ok (.agg #[.int .i64 hd, .slice sa sm sc]) W) (by kernel_rfl) (HS.out) (fun hHeld => ?_)
  refine wpAnyH_take (i := 0) (oi := { dst := some 5, op := Op.load 23 (Operand.tmp 1), type := 23, pos := "deeds.go:128", after := #[], guard := none }) (v := ?_) rfl (by kernel_rfl) (by kernel_rfl) (by kernel_rfl) (fun _ _ _ h => h) (Or.inl ⟨by rfl, ?_⟩) hHeld ?_
  rotate_left
  · intro w hSw; (try dsimp only at hSw); go_simp; try with_reducible rfl
  try simp only [Act.put, List.setIfInBounds_toArray, List.set_cons_zero, List.set_cons_succ]
  refine wpAnyH_take (i := 1) (oi := { dst := some 6, op := Op.nilCheck (Operand.tmp 5), type := 0, pos := "deeds.go:128", after := #[{ on := 0, ground := Ground.data }], guard := none }) (v := ?_) rfl (by kernel_rfl) (by kernel_rfl) (by kernel_rfl) (fun _ _ _ h => h) (Or.inl ⟨by rfl, ?_⟩) hHeld ?_
  rotate_left
  · intro w hSw; (try dsimp only at hSw); go_simp; try with_reducible rfl
  try simp only [Act.put, List.setIfInBounds_toArray, List.set_cons_zero, List.set_cons_succ]
  refine wpAnyH_take (i := 2) (oi := { dst := some 7, op := Op.fieldAddr 41 (Operand.tmp 6) 3, type := 0, pos := "deeds.go:128", after := #[{ on := 1, ground := Ground.data }], guard := none }) (v := ?_) rfl (by kernel_rfl) (by kernel_rfl) (by kernel_rfl) (fun _ _ _ h => h) (Or.inl ⟨by rfl, ?_⟩) hHeld ?_
  rotate_left
  · intro w hSw; (try dsimp only at hSw); go_simp; try with_reducible rfl
  try simp only [Act.put, List.setIfInBounds_toArray, List.set_cons_zero, List.set_cons_succ]
  refine wpAnyH_take (i := 3) (oi := { dst := some 8, op := Op.load 37 (Operand.tmp 7), type := 37, pos := "deeds.go:128", after := #[{ on := 2, ground := Ground.data }], guard := none }) (v := ?_) rfl (by kernel_rfl) (by kernel_rfl) (by kernel_rfl) (fun _ _ _ h => h) (Or.inl ⟨by rfl, ?_⟩) hHeld ?_
  rotate_left
  · intro w hSw; (try dsimp only at hSw); go_simp; try with_reducible rfl
  try simp only [Act.put, List.setIfInBounds_toArray, List.set_cons_zero, List.set_cons_succ]
  refine wpAnyH_take (i := 4) (oi := { dst := some 9, op := Op.move (Operand.tmp 0), type := 9, pos := "deeds.go:128", after := #[], guard := none }) (v := ?_) rfl (by kernel_rfl) (by kernel_rfl) (by kernel_rfl) (fun _ _ _ h => h) (Or.inl ⟨by rfl, ?_⟩) hHeld ?_
  rotate_left
  · intro w hSw; (try dsimp only at hSw); go_simp; try with_reducible rfl
  try simp only [Act.put, List.setIfInBounds_toArray, List.set_cons_zero, List.set_cons_succ]
  refine wpAnyH_take (i := 5) (oi := { dst := some 10, op := Op.lookup 37 (Operand.tmp 8) (Operand.tmp 9) false, type := 57, pos := "deeds.go:128", after := #[{ on := 3, ground := Ground.data }, { on := 4, ground := Ground.data }], guard := none }) (v := .agg #[.int .i64 hd, .slice sa sm sc]) rfl (by kernel_rfl) (by kernel_rfl) (by kernel_rfl) (fun _ _ _ h => h) (Or.inl ⟨by rfl, ?_⟩) hHeld ?_
  · intro w hSw; obtain ⟨-, -, -, -, hlk⟩ := hSw; go_simp
  try simp only [Act.put, List.setIfInBounds_toArray, List.set_cons_zero, List.set_cons_succ]
  refine wpAnyH_take (i := 6) (oi := { dst := some 11, op := Op.field 57 (Operand.tmp 10) 0, type := 3, pos := "deeds.go:128", after := #[{ on := 5, ground := Ground.data }], guard := none }) (v := ?_) rfl (by kernel_rfl) (by kernel_rfl) (by kernel_rfl) (fun _ _ _ h => h) (Or.inl ⟨by rfl, ?_⟩) hHeld ?_
  rotate_left
  · intro w hSw; (try dsimp only at hSw); go_simp; try with_reducible rfl
  try simp only [Act.put, List.setIfInBounds_toArray, List.set_cons_zero, List.set_cons_succ]
  refine wpAnyH_take (i := 7) (oi := { dst := some 12, op := Op.load 23 (Operand.tmp 1), type := 23, pos := "deeds.go:128", after := #[], guard := none }) (v := ?_) rfl (by kernel_rfl) (by kernel_rfl) (by kernel_rfl) (fun _ _ _ h => h) (Or.inl ⟨by rfl, ?_⟩) hHeld ?_
  rotate_left
  · intro w hSw; (try dsimp only at hSw); go_simp; try with_reducible rfl
  try simp only [Act.put, List.setIfInBounds_toArray, List.set_cons_zero, List.set_cons_succ]
  refine wpAnyH_take (i := 8) (oi := { dst := some 13, op := Op.nilCheck (Operand.tmp 12), type := 0, pos := "deeds.go:128", after := #[{ on := 7, ground := Ground.data }], guard := none }) (v := ?_) rfl (by kernel_rfl) (by kernel_rfl) (by kernel_rfl) (fun _ _ _ h => h) (Or.inl ⟨by rfl, ?_⟩) hHeld ?_
  rotate_left
  · intro w hSw; (try dsimp only at hSw); go_simp; try with_reducible rfl
  try simp only [Act.put, List.setIfInBounds_toArray, List.set_cons_zero, List.set_cons_succ]
  refine wpAnyH_take (i := 9) (oi := { dst := some 14, op := Op.fieldAddr 41 (Operand.tmp 13) 1, type := 0, pos := "deeds.go:128", after := #[{ on := 8, ground := Ground.data }], guard := none }) (v := ?_) rfl (by kernel_rfl) (by kernel_rfl) (by kernel_rfl) (fun _ _ _ h => h) (Or.inl ⟨by rfl, ?_⟩) hHeld ?_
  rotate_left
  · intro w hSw; (try dsimp only at hSw); go_simp; try with_reducible rfl
  try simp only [Act.put, List.setIfInBounds_toArray, List.set_cons_zero, List.set_cons_succ]
  refine wpAnyH_take (i := 10) (oi := { dst := some 15, op := Op.load 3 (Operand.tmp 14), type := 3, pos := "deeds.go:128", after := #[{ on := 9, ground := Ground.data }], guard := none }) (v := ?_) rfl (by kernel_rfl) (by kernel_rfl) (by kernel_rfl) (fun _ _ _ h => h) (Or.inl ⟨by rfl, ?_⟩) hHeld ?_
  rotate_left
  · intro w hSw; (try dsimp only at hSw); go_simp; try with_reducible rfl
  try simp only [Act.put, List.setIfInBounds_toArray, List.set_cons_zero, List.set_cons_succ]
  refine wpAnyH_take (i := 11) (oi := { dst := some 16, op := Op.binOp BinOp.add 3 (Operand.tmp 11) (Operand.tmp 15) 3, type := 3, pos := "deeds.go:128", after := #[{ on := 6, ground := Ground.data }, { on := 10, ground := Ground.data }], guard := none }) (v := ?_) rfl (by kernel_rfl) (by kernel_rfl) (by kernel_rfl) (fun _ _ _ h => h) (Or.inl ⟨by rfl, ?_⟩) hHeld ?_
  rotate_left
  · intro w hSw; (try dsimp only at hSw); go_simp; try with_reducible rfl
  try simp only [Act.put, List.setIfInBounds_toArray, List.set_cons_zero, List.set_cons_succ]
  refine wpAnyH_take (i := 12) (oi := { dst := some 17, op := Op.load 3 (Operand.tmp 2), type := 3, pos := "deeds.go:128", after := #[], guard := none }) (v := ?_) rfl (by kernel_rfl) (by kernel_rfl) (by kernel_rfl) (fun _ _ _ h => h) (Or.inl ⟨by rfl, ?_⟩) hHeld ?_
  rotate_left
  · intro w hSw; (try dsimp only at hSw); go_simp; try with_reducible rfl
  try simp only [Act.put, List.setIfInBounds_toArray, List.set_cons_zero, List.set_cons_succ]
  refine wpAnyH_take (i := 13) (oi := { dst := some 18, op := Op.binOp BinOp.gtr 3 (Operand.tmp 16) (Operand.tmp 17) 3, type := 4, pos := "deeds.go:128", after := #[{ on := 11, ground := Ground.data }, { on := 12, ground := Ground.data }], guard := none }) (v := ?_) rfl (by kernel_rfl) (by kernel_rfl) (by kernel_rfl) (fun _ _ _ h => h) (Or.inl ⟨by rfl, ?_⟩) hHeld ?_
  rotate_left
  · intro w hSw; (try dsimp only at hSw); go_simp; try with_reducible rfl
  try simp only [Act.put, List.setIfInBounds_toArray, List.set_cons_zero, List.set_cons_succ]
  refine wpAnyH_take (i := 14) (oi := { dst := some 4, op := Op.assign (Operand.tmp 18), type := 4, pos := "deeds.go:128", after := #[{ on := 13, ground := Ground.data }, { on := 0, ground := Ground.phase }, { on := 1, ground := Ground.phase }, { on := 2, ground := Ground.phase }, { on := 3, ground := Ground.phase }, { on := 4, ground := Ground.phase }, { on := 5, ground := Ground.phase }, { on := 6, ground := Ground.phase }, { on := 7, ground := Ground.phase }, { on := 8, ground := Ground.phase }, { on := 9, ground := Ground.phase }, { on := 10, ground := Ground.phase }, { on := 11, ground := Ground.phase }, { on := 12, ground := Ground.phase }, { on := 13, ground := Ground.phase }], guard := none }) (v := ?_) rfl (by kernel_rfl) (by kernel_rfl) (by kernel_rfl) (fun _ _ _ h => h) (Or.inl ⟨by rfl, ?_⟩) hHeld ?_
  rotate_left
  · intro w hSw; (try dsimp only at hSw); go_simp; try with_reducible rfl
  try simp only [Act.put, List.setIfInBounds_toArray, List.set_cons_zero, List.set_cons_succ]
  refine wpAnyH_done (by kernel_rfl) ?_ _
  clear hHeld
  go_wp2_with fail
  go_ret
  exact ⟨rfl, 1, rfl⟩
theorem enters_sil1 : ∀ args w, (callFunc 59 args).run Tryz.prog w = .ok (.enter 59 args) w := fun _ _ => by kernel_rfl
theorem name_len {k : Nat} (ho : GOk k G) : ∀ s ∈ G.ks, s.length ≤ maxLen := fun s hs => by
  have := ho.name s hs
  unfold nameOk at this
  simp at this
  unfold maxLen
  omega
set_option maxHeartbeats 1000000 in
theorem silent_any (h : GP w F g M1 M2 M3 n A pv G) {kk : Nat} (ho : GOk kk G) (now : Int) : Calls Tryz.prog 48 #[.pointer (some ⟨g, 0, none⟩), .int .i64 now] w fun e w' => ∃ v, e = .returned v ∧ OwnK kS w' w.heap.size v (G.silent now) ∧ Below w.heap.size w w' := by
  obtain ⟨W1, hW1⟩ : ∃ W1, (w.alloc (.cells #[.pointer (some ⟨g, 0, none⟩)] 23)).alloc (.cells #[.int .i64 now] 3) = W1 := ⟨_, rfl⟩
  have b1 : Below w.heap.size w W1 := by rw [← hW1]; exact ((Below.refl _ _).alloc (Nat.le_refl _) _).alloc (by simp) _
  have s1 : W1.heap.size = w.heap.size + 1 + 1 := by rw [← hW1]; simp
  have x1 : Blk W1 w.heap.size #[.pointer (some ⟨g, 0, none⟩)] 23 := by
    rw [← hW1]
    exact Blk.later (heap_alloc_new w _) ((Below.refl _ _).alloc (Nat.le_refl _) _)
  have x2 : Blk W1 (w.heap.size + 1) #[.int .i64 now] 3 := by
    have h := heap_alloc_new (w.alloc (.cells #[.pointer (some ⟨g, 0, none⟩)] 23)) (.cells #[.int .i64 now] 3)
    rw [World.size_alloc] at h
    rw [← hW1]
    exact h
  have h1 := h.later b1
  have HM := hid (Members_any h1 ho)
  have c1 := x1.cell 0
  simp only [List.getElem?_toArray, List.getElem?_cons_zero] at c1
  have HD : Hid (∀ W2 v, OwnK kS W2 W1.heap.size v G.ks → Below W1.heap.size W1 W2 → Calls Tryz.prog 58 #[v, .func (.func 59) #[] #[.pointer (some ⟨w.heap.size, 0, none⟩), .pointer (some ⟨w.heap.size + 1, 0, none⟩)]] W2 fun e w' => ∃ v', e = .returned v' ∧ OwnK kS w' W1.heap.size v' (G.silent now) ∧ Below W1.heap.size W2 w') := fun W2 v hO hb => by
    refine deleteF_own hO (name_len ho) (by have := ho.cnt; omega) hb.size (fun s => decide (now < G.heard s + G.sess)) 59 _ enters_sil1 (fun W s hs hW => ?_)
    have hb2 : Below W1.heap.size W1 W := hb.trans hW
    exact silent1_any (h1.later hb2) ho ((x1.later hb2).cell 0) ((x2.later hb2).cell 0) s hs
  have HB1 := hid b1
  have hmf : ∀ (fn : Fn) (first cap : Array Value) (w : World), (Instr.makeFunc fn first cap).run Tryz.prog w = .ok (.func fn first cap) w := fun _ _ _ _ => rfl
  clear h h1 ho x1 x2 b1 s1
  go_enter Tryz.func48, Tryz.ntmps48
  go_wp2_with (first
    | (go_at_call 8; (with_reducible_and_instances (refine HM.out.mono ?_)); rintro e W2 ⟨v, rfl, hO, hb⟩; have HDf := hid (HD.out W2 v hO hb); have HB2 := hid hb; clear hO hb)
    | (go_at_call 58; (with_reducible_and_instances (refine HDf.out.mono ?_)); rintro e W3 ⟨v', rfl, hO, hb⟩; have HO := hid hO; have HB3 := hid hb; clear hO hb))
  go_ret
  exact ⟨v', rfl, HO.out.mono HB1.out.size, HB1.out.trans ((HB2.out.trans HB3.out).mono HB1.out.size)⟩
theorem decExpire_any (h : GP w F g M1 M2 M3 n A pv G) {kk : Nat} (ho : GOk kk G) (x : Ev) : Calls Tryz.prog 44 #[.pointer (some ⟨g, 0, none⟩), .agg (evA x)] w fun r w' => r = .returned (.bool (G.silent x.now).isEmpty) ∧ Below w.heap.size w w' := by
  obtain ⟨k, s, a, b, c, d, e, f, q⟩ := x
  obtain ⟨t, ht⟩ : ∃ t, nmS s = t := ⟨_, rfl⟩
  show Calls Tryz.prog _ #[_, .agg #[.int .i64 k, .string (nmS s), .int .i64 a, .int .i64 b, .int .i64 c, .int .i64 d, .int .i64 e, .int .i64 f, .bool q]] w fun r w' => r = .returned (.bool (G.silent f).isEmpty) ∧ Below w.heap.size w w'
  rw [ht]
  obtain ⟨W1, hW1⟩ : ∃ W1, w.alloc (.cells #[.int .i64 k, .string t, .int .i64 a, .int .i64 b, .int .i64 c, .int .i64 d, .int .i64 e, .int .i64 f, .bool q] TEv) = W1 := ⟨_, rfl⟩
  have b1 : Below w.heap.size w W1 := by rw [← hW1]; exact (Below.refl _ _).alloc (Nat.le_refl _) _
  have x1 : Blk W1 w.heap.size #[.int .i64 k, .string t, .int .i64 a, .int .i64 b, .int .i64 c, .int .i64 d, .int .i64 e, .int .i64 f, .bool q] TEv := by rw [← hW1]; exact heap_alloc_new w _
  have c7 := x1.cell 7
  simp only [List.getElem?_toArray, List.getElem?_cons_zero, List.getElem?_cons_succ] at c7
  have HSi := hid (silent_any (h.later b1) ho f)
  have HB1 := hid b1
  have HL : Hid ((G.silent f).length ≤ 100) := Nat.le_trans (List.length_filter_le _ _) ho.cnt
  clear h ho x1 b1
  generalize G.silent f = sl at *
  go_enter Tryz.func44, Tryz.ntmps44
  go_wp2_with (go_at_call 48; (with_reducible_and_instances (refine HSi.out.mono ?_)); rintro r W2 ⟨v, rfl, hO, hb⟩; obtain ⟨va, vc, hv, -⟩ := hO.form kS_ok.tofit; subst hv; have HB2 := hid hb; clear hO hb)
  go_ret
  refine ⟨?_, HB1.out.trans (HB2.out.mono HB1.out.size)⟩
  cases sl with
  | nil => rfl
  | cons z l => simp; omega
end Go.Proofs.YtipgociofjokeaaGreat
