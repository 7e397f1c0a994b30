/- An acceptor in memory: its struct, its store, what it knows. latest of package acceptor: the greatest version of a key that has a value. -/
import Derived.Test.YtmiibakbcogolaaGreatPAcR
import Derived.Test.YtmiibakbcogolaaGreatSPic
import Derived.Maps.RangeWalk
import Derived.WalkKit
namespace Go.Proofs.YtmiibakbcogolaaGreat.Ac
open Go.RowKit Go.Shelf
variable {w w' W : World} {F : List Nat} {B M n : Nat} {s : SSt} {kn : Nat → Nat → Option Kn}

abbrev TSp : TypeId := 110
theorem rowSp : TSp < Tryz.prog.types.size := of_decide_eq_true (by kernel_rfl)
set_option maxRecDepth 100000 in
theorem wideSp : (match Tryz.prog.underlying TSp with | some (.array _ _) | some (.struct _) => true | _ => false) = true := by rw [Tryz.underlying110]
set_option maxRecDepth 100000 in
theorem keySp : Maps.Keyed Tryz.prog TSp := Maps.Keyed.of_law (deep_law_laid laidOut (m := 2) (by omega) rowSp (by kernel_rfl) wideSp)
theorem keyTypeSp : Tryz.prog.keyType TSp = true := by kernel_rfl
theorem cellsSp : Tryz.prog.cellsOf TSp = 2 := by kernel_rfl
theorem keyOf_p {g v : Nat} (hl : g < 9223372036854775808) (hp : v < 9223372036854775808) : keyOf Tryz.prog TSp (slotV g v) = some (kS g v) := by
  have h1 := wf64 hl
  have h2 := wf64 hp
  obtain ⟨m, hm⟩ : ∃ m, Tryz.prog.types.size = m + 1 := ⟨_, (by kernel_rfl : Tryz.prog.types.size = (Tryz.prog.types.size - 1) + 1)⟩
  unfold keyOf slotV
  simp only [Tryz.underlying110]
  rw [if_pos (by simp [keyTypeSp, Value.formed, Tryz.underlying110, cellsSp]), hm]
  unfold Program.keyLits
  simp only [Tryz.underlying110, Value.cells]
  simp [cellsSp, Program.keyLits, Tryz.underlying3, h1, h2, kS, cellsInt]
/-- In w the map at M has what kn says. -/
structure KnMap (w : World) (M n : Nat) (kn : Nat → Nat → Option Kn) (f : Lit → Option Value) : Prop where
  map : MapF w TSp M n f
  get : ∀ g v, g < 281474976710656 → v < 281474976710656 → f (kS g v) = (kn g v).map knV
  sup : ∀ kl x, f kl = some x → ∃ g v, g < 281474976710656 ∧ v < 281474976710656 ∧ kl = kS g v
  ok : ∀ g v k, kn g v = some k → g < 281474976710656 ∧ v < 281474976710656 ∧ k.ok
/-- What is known, or nothing. -/
def knAt (kn : Nat → Nat → Option Kn) (g v : Nat) : Kn := (kn g v).getD kn0
def knSet (kn : Nat → Nat → Option Kn) (g v : Nat) (k : Kn) : Nat → Nat → Option Kn := fun g' v' => if g' = g ∧ v' = v then some k else kn g' v'
theorem knSet_at (kn : Nat → Nat → Option Kn) (g v : Nat) (k : Kn) : knAt (knSet kn g v k) g v = k := by simp [knAt, knSet]
variable {f : Lit → Option Value}
theorem KnMap.okAt (h : KnMap w M n kn f) (g v : Nat) : (knAt kn g v).ok := by
  unfold knAt
  cases hk : kn g v with
  | none => exact kn0_ok
  | some k => exact (h.ok g v k hk).2.2
theorem KnMap.keep (h : KnMap w M n kn f) (hk : w'.heap[M]? = w.heap[M]?) : KnMap w' M n kn f := ⟨h.map.keep hk, h.get, h.sup, h.ok⟩
theorem KnMap.look (h : KnMap w M n kn f) {g v : Nat} (hg : g < 281474976710656) (hv : v < 281474976710656) :
    (Instr.lookup 68 (.map (some M)) (slotV g v) false).run Tryz.prog w = .ok (knV (knAt kn g v)) w := by
  rw [h.map.look keySp Tryz.underlying68 (Tryz.zeroValue113 w) (keyOf_p (by omega) (by omega)), h.get g v hg hv]
  congr 1
  unfold knAt
  cases kn g v <;> rfl
theorem KnMap.store (h : KnMap w M n kn f) (hn : n < maxLen) {g v : Nat} (hg : g < 281474976710656) (hv : v < 281474976710656) {k : Kn} (hk : k.ok) :
    ∃ w' f', (Instr.mapUpdate 68 (.map (some M)) (slotV g v) (knV k)).run Tryz.prog w = .ok () w' ∧ KnMap w' M (n + 1) (knSet kn g v k) f' ∧ Chg [M] w w' := by
  obtain ⟨w', h1, h2, h3⟩ := h.map.store keySp Tryz.underlying68 hn (val := knV k) (keyOf_p (g := g) (v := v) (by omega) (by omega))
  refine ⟨w', _, h1, ⟨h2, fun g' v' hg' hv' => ?_, fun kl x hx => ?_, fun g' v' k' hk' => ?_⟩, h3⟩
  · by_cases e : g' = g ∧ v' = v
    · obtain ⟨rfl, rfl⟩ := e
      rw [updF_same]
      simp [knSet]
    · have hne : kS g' v' ≠ kS g v := fun he => e (kS_inj (by omega) (by omega) (by omega) (by omega) he)
      rw [updF_other f hne, h.get g' v' hg' hv']
      simp [knSet, e]
  · by_cases e : kl = kS g v
    · exact ⟨g, v, hg, hv, e⟩
    · rw [updF_other f e] at hx
      exact h.sup kl x hx
  · unfold knSet at hk'
    split at hk'
    · rename_i e
      obtain ⟨rfl, rfl⟩ := e
      cases hk'
      exact ⟨hg, hv, hk⟩
    · exact h.ok g' v' k' hk'
theorem KnMap.empty (h : w.heap[M]? = some (.map #[] 0)) : KnMap w M 0 (fun _ _ => none) (fun _ => none) :=
  ⟨MapF.empty h, fun _ _ _ _ => rfl, fun _ _ h => (by cases h), fun _ _ _ h => (by cases h)⟩
theorem KnMap.mono (h : KnMap w M n kn f) {m : Nat} (hm : n ≤ m) : KnMap w M m kn f := ⟨h.map.mono hm, h.get, h.sup, h.ok⟩
abbrev TAc : TypeId := 70
/-- An acceptor at B that is up: its store is s, it knows kn, its blocks are all in F. -/
structure AP (w : World) (F : List Nat) (B S D M : Nat) (FD G : List Nat) (X Y : Nat) (fx fy f : Lit → Option Value) (A : Nat → Nat → Value) (s : SSt) (kn : Nat → Nat → Option Kn) : Prop where
  store : SPic w FD G S D X Y fx fy A s
  kmap : KnMap w M s.num kn f
  box : Blk w B #[.pointer (some ⟨D, 0, none⟩), .pointer (some ⟨S, 0, none⟩), .map (some M)] TAc
  nB : B ∉ G ++ FD
  nM : M ∉ G ++ FD
  sF : ∀ g ∈ FD, g ∈ F
  sG : ∀ g ∈ G, g ∈ F
  mB : B ∈ F
  mM : M ∈ F
  lt : ∀ g ∈ F, g < w.heap.size
def AUp (w : World) (F : List Nat) (B : Nat) (s : SSt) (kn : Nat → Nat → Option Kn) : Prop := ∃ S D M FD G X Y fx fy f A, AP w F B S D M FD G X Y fx fy f A s kn
/-- What a call on an acceptor that stays up leaves. -/
def AMoved (F : List Nat) (B : Nat) (s : SSt) (kn : Nat → Nat → Option Kn) (w w' : World) : Prop := (∃ F', AUp w' F' B s kn ∧ ∀ g ∈ F', g ∈ F ∨ w.heap.size ≤ g) ∧ Chg F w w'
variable {S D X Y : Nat} {FD G : List Nat} {fx fy : Lit → Option Value} {A : Nat → Nat → Value}
theorem AP.neBM (h : AP w F B S D M FD G X Y fx fy f A s kn) : B ≠ M := by
  obtain ⟨es, c, hm⟩ := h.kmap.map.isMap
  intro e
  have := h.box
  unfold Blk at this
  rw [e, hm] at this
  cases this
theorem AP.later (h : AP w F B S D M FD G X Y fx fy f A s kn) (hb : Below w.heap.size w w') : AP w' F B S D M FD G X Y fx fy f A s kn :=
  ⟨h.store.below hb, h.kmap.keep (hb.block M (h.lt M h.mM)), h.box.later hb, h.nB, h.nM, h.sF, h.sG, h.mB, h.mM, fun g hg => Nat.lt_of_lt_of_le (h.lt g hg) hb.size⟩
theorem AUp.later (h : AUp w F B s kn) (hb : Below w.heap.size w w') : AUp w' F B s kn := by
  obtain ⟨S, D, M, FD, G, X, Y, fx, fy, f, A, h⟩ := h
  exact ⟨S, D, M, FD, G, X, Y, fx, fy, f, A, h.later hb⟩
theorem AUp.lt (h : AUp w F B s kn) : ∀ g ∈ F, g < w.heap.size := by
  obtain ⟨S, D, M, FD, G, X, Y, fx, fy, f, A, h⟩ := h
  exact h.lt
theorem AUp.moved (h : AUp w F B s kn) (hb : Below w.heap.size w w') : AMoved F B s kn w w' := ⟨⟨F, h.later hb, fun _ hg => Or.inl hg⟩, Chg.of hb⟩
theorem AMoved.pre (hb : Below w.heap.size w W) (h : AMoved F B s kn W w') : AMoved F B s kn w w' := by
  obtain ⟨⟨F', h1, h2⟩, h3⟩ := h
  exact ⟨⟨F', h1, fun g hg => (h2 g hg).imp id (fun h => Nat.le_trans hb.size h)⟩, (Chg.of hb).trans h3 (fun k hk => Or.inl hk)⟩
theorem AMoved.post (h : AMoved F B s kn w W) (hb : Below W.heap.size W w') : AMoved F B s kn w w' := by
  obtain ⟨⟨F', h1, h2⟩, h3⟩ := h
  exact ⟨⟨F', h1.later hb, h2⟩, h3.trans (Chg.of (F := []) hb) (fun k hk => by cases hk)⟩
end Go.Proofs.YtmiibakbcogolaaGreat.Ac
namespace Go.Proofs.YtmiibakbcogolaaGreat.Ac
open Go.RowKit Go.Shelf Go.Maps
variable {w w' W : World} {F : List Nat} {B M n : Nat} {s : SSt} {kn : Nat → Nat → Option Kn}

/-- v is the greatest version of the key g that has a value, or 0. -/
def IsLatest (kn : Nat → Nat → Option Kn) (g v : Nat) : Prop := (v = 0 ∨ ∃ k, kn g v = some k ∧ 0 < k.b) ∧ ∀ v' k, kn g v' = some k → 0 < k.b → v' ≤ v
theorem entry_spot {Dm : DataW Value} {f : Lit → Option Value} (hD1 : ∀ kl, Maps.has Dm kl = (f kl).isSome) (hD2 : ∀ kl v, f kl = some v → ∀ z, Dm.atKey kl z = .held v)
    (get : ∀ g v, g < 281474976710656 → v < 281474976710656 → f (kS g v) = (kn g v).map knV) (sup : ∀ kl x, f kl = some x → ∃ g v, g < 281474976710656 ∧ v < 281474976710656 ∧ kl = kS g v)
    {key v : Value} {kl : Lit} (hkey : keyOf Tryz.prog TSp key = some kl) (hat : ∀ zd, Dm.atKey kl zd = .held v) :
    ∃ g ver k, g < 281474976710656 ∧ ver < 281474976710656 ∧ kn g ver = some k ∧ kl = kS g ver ∧ key = slotV g ver ∧ v = knV k := by
  have hh : (f kl).isSome = true := by
    cases hx : Maps.has Dm kl with
    | true => rw [← hD1, hx]
    | false =>
      exfalso
      have e1 := hat (.map [])
      rw [Maps.atKey_of_not_has hx] at e1
      cases e1
  obtain ⟨x, hx⟩ := Option.isSome_iff_exists.1 hh
  obtain ⟨g, ver, hg, hv, rfl⟩ := sup kl x hx
  have e2 := hat (.map [])
  rw [hD2 _ x hx] at e2
  cases e2
  rw [get g ver hg hv] at hx
  cases hk : kn g ver with
  | none => rw [hk] at hx; cases hx
  | some k =>
    rw [hk] at hx
    cases hx
    exact ⟨g, ver, k, hg, hv, hk, rfl, keySp.inj hkey (keyOf_p (by omega) (by omega)), rfl⟩
/-- The step of the range over what is known. -/
theorem next_spots {ops : Array Oper} {rest : List Oper} {o : Oper} {a : Act} {Q : Exit → Act → World → Prop} (w : World) (hg : o.guard = none) (it : Operand) (hop : o.op = Op.next it false) (M r n : Nat) (Dm : DataW Value) (f : Lit → Option Value) (left : Lit → Bool) (cnt : Nat)
    (hit : a.eval it = .pointer (some ⟨r, 0, none⟩)) (h : w.ranges Tryz.prog TSp RV M r n Dm left cnt) (hD1 : ∀ kl, Maps.has Dm kl = (f kl).isSome) (hD2 : ∀ kl v, f kl = some v → ∀ z, Dm.atKey kl z = .held v)
    (get : ∀ g v, g < 281474976710656 → v < 281474976710656 → f (kS g v) = (kn g v).map knV) (sup : ∀ kl x, f kl = some x → ∃ g v, g < 281474976710656 ∧ v < 281474976710656 ∧ kl = kS g v)
    (hDone : (∀ kl, left kl = false) → wpList Tryz.prog ops Q rest (a.put o.dst (.tuple #[.bool false])) w)
    (hMore : ∀ (g v : Nat) (k : Kn) (w' : World) (cnt' : Nat), g < 281474976710656 → v < 281474976710656 → kn g v = some k → w'.ranges Tryz.prog TSp RV M r n Dm (fun z => left z && !z.sameKey (kS g v)) cnt' → cnt' < cnt → w.grownBy w' (some r) → w'.heap.size = w.heap.size →
      (Instr.entry (.pointer (some ⟨r, 0, none⟩))).run Tryz.prog w' = .ok (.tuple #[.agg #[.int .i64 (g : Int), .int .i64 (v : Int)], .agg #[.int .i64 (k.p : Int), .int .i64 (k.b : Int), .bool k.s, .string (bstr k.v)]]) w' →
      wpList Tryz.prog ops Q rest (a.put o.dst (.tuple #[.bool true, .agg #[.int .i64 (g : Int), .int .i64 (v : Int)], .agg #[.int .i64 (k.p : Int), .int .i64 (k.b : Int), .bool k.s, .string (bstr k.v)]])) w') :
    wpList Tryz.prog ops Q (o :: rest) a w := by
  refine wpList_plain hg fun K' hK' => ?_
  unfold Oper.wp
  rcases h.next keySp o.type with ⟨h0, hl, hrun⟩ | ⟨key, v, kl, y, w', cnt', hkey, hlk, hv, hat, hrun, hrg, hlt, hgr, hsz, hen⟩
  · simp [execOp, hop, hit, hrun, Result.andThen]
    exact hK' _ _ (hDone hl)
  · have hy : y.1 = .held v := by
      simp only [RV, Option.some.injEq] at hv
      rw [← hv]
    obtain ⟨g, ver, k, e1, e2, e3, rfl, rfl, rfl⟩ := entry_spot hD1 hD2 get sup hkey (fun zd => (hat zd).trans hy)
    simp [execOp, hop, hit, hrun, Result.andThen]
    exact hK' _ _ (hMore g ver k w' cnt' e1 e2 e3 hrg hlt hgr hsz hen)
/-- In the midst of latest: all that has come is at most ver. -/
def Mid (kn : Nat → Nat → Option Kn) (g : Nat) (left : Lit → Bool) (ver : Nat) : Prop :=
  (ver < 281474976710656 ∧ (ver = 0 ∨ ∃ k, kn g ver = some k ∧ 0 < k.b)) ∧ ∀ v' k, kn g v' = some k → 0 < k.b → left (kS g v') = false → v' ≤ ver
theorem Mid.step {g g0 v0 ver ver' : Nat} {left : Lit → Bool} {k0 : Kn} (h : Mid kn g left ver) (hok : ∀ g v k, kn g v = some k → g < 281474976710656 ∧ v < 281474976710656 ∧ k.ok) (hk : kn g0 v0 = some k0)
    (hver : ver' = if g0 = g ∧ 0 < k0.b then max ver v0 else ver) : Mid kn g (fun z => left z && !z.sameKey (kS g0 v0)) ver' := by
  obtain ⟨⟨h0, h1⟩, h2⟩ := h
  have o0 := hok g0 v0 k0 hk
  refine ⟨⟨?_, ?_⟩, fun v' k hk' hb hl => ?_⟩
  · rw [hver]; split <;> omega
  · rw [hver]
    split
    · rename_i e
      rcases Nat.le_total ver v0 with hle | hle
      · rw [Nat.max_eq_right hle]; exact Or.inr ⟨k0, by rw [← e.1]; exact hk, e.2⟩
      · rw [Nat.max_eq_left hle]; exact h1
    · exact h1
  · simp only [Bool.and_eq_false_iff, Bool.not_eq_false'] at hl
    have hle : ver ≤ ver' := by rw [hver]; split <;> omega
    rcases hl with hl | hl
    · exact Nat.le_trans (h2 v' k hk' hb hl) hle
    · have e := WideAt.sameKey_eq hl
      have o1 := hok g v' k hk'
      obtain ⟨rfl, rfl⟩ := kS_inj (by omega) (by omega) (by omega) (by omega) e
      rw [hk] at hk'
      cases hk'
      rw [hver, if_pos ⟨rfl, hb⟩]
      omega
set_option maxRecDepth 100000 in
set_option maxHeartbeats 2000000 in
theorem latest_pic {f : Lit → Option Value} (hk : KnMap w M n kn f) (c2 : w.cell? ⟨B, 2, none⟩ = some (.map (some M))) (g : Nat) (hg : g < 281474976710656) :
    Calls Tryz.prog 91 #[.pointer (some ⟨B, 0, none⟩), .int .i64 (g : Int)] w fun e w' => ∃ v : Nat, e = .returned (.int .i64 (v : Int)) ∧ Hid (IsLatest kn g v) ∧ v < 281474976710656 ∧ Below w.heap.size w w' := by
  obtain ⟨Dm, hown, hD1, hD2⟩ := hk.map
  have HD : Hid ((∀ kl, Maps.has Dm kl = (f kl).isSome) ∧ (∀ kl v, f kl = some v → ∀ z, Dm.atKey kl z = .held v) ∧ KnMap w M n kn f) := hid ⟨hD1, hD2, hk⟩
  clear hD1 hD2 hk
  go_enter Tryz.func91, Tryz.ntmps91
  go_wp2_with (first
    | (at_range; refine wpList_range_own _ rfl _ 68 rfl TSp 113 keySp Tryz.underlying68 _ M n Dm rfl hown ?_; intro w0 hrg0 hg0 hs0)
    | go_in)
  go_frame
  go_loopw [5] (fun x wr => ∃ (left : Lit → Bool) (cnt ver : Nat), x = .int .i64 (ver : Int) ∧ wr.ranges Tryz.prog TSp RV M w.heap.size n Dm left cnt ∧ Hid (Mid kn g left ver) ∧ Hid (Below w.heap.size w wr)) (fun _ wr => wr.rangeLeft M w.heap.size)
  case atStart =>
    refine ⟨_, _, 0, rfl, hrg0, hid ⟨⟨by omega, Or.inl rfl⟩, fun v' k hk hb hl => ?_⟩, hid ((Below.refl _ w).grown hg0 (Nat.le_refl _) (fun j hj => by cases hj))⟩
    exfalso
    have o := HD.out.2.2.ok g v' k hk
    rw [HD.out.1, HD.out.2.2.get g v' o.1 o.2.1, hk] at hl
    cases hl
  case round =>
    obtain ⟨left, cnt, ver, rfl, hrg, HM, HB⟩ := hrel
    clear hrg0 hg0 hs0 hown
    go_wp2_with (first
      | (at_next; refine next_spots _ rfl _ rfl M w.heap.size n Dm f left cnt rfl hrg HD.out.1 HD.out.2.1 HD.out.2.2.get HD.out.2.2.sup ?_ ?_)
      | go_in)
    · intro hl0
      go_wp2
      go_ret
      refine ⟨ver, rfl, hid ⟨HM.out.1.2, fun v' k hk hb => HM.out.2 v' k hk hb (hl0 _)⟩, HM.out.1.1, HB.out⟩
    · intro g0 v0 k0 w1 cnt1 e1 e2 e3 hrg1 hlt hg1 hs1 hen
      have HB1 : Hid (Below w.heap.size w w1) := hid (HB.out.grown hg1 HB.out.size (fun j hj => by cases hj; exact Nat.le_refl _))
      have HK : Hid (kn g0 v0 = some k0) := e3
      have hk0 := (HD.out.2.2.ok g0 v0 k0 e3).2.2
      have hverlt := HM.out.1.1
      clear e3 hg1 HB
      by_cases hgg : g0 = g
      · subst hgg
        by_cases hbb : 0 < k0.b
        · rcases Nat.le_total ver v0 with hle | hle
          · go_wp2
            go_roundw
            case rel => exact ⟨_, cnt1, v0, val_int (by split <;> omega), (hrg1.alloc _).alloc _, hid (HM.out.step HD.out.2.2.ok HK.out (by rw [if_pos ⟨rfl, hbb⟩]; omega)), hid ((HB1.out.alloc HB1.out.size _).alloc (by have := HB1.out.size; simp; omega) _)⟩
            case measure => rw [((hrg1.alloc _).alloc _).left_eq, hrg.left_eq]; exact hlt
          · go_wp2
            go_roundw
            case rel => exact ⟨_, cnt1, ver, val_int (by split <;> omega), (hrg1.alloc _).alloc _, hid (HM.out.step HD.out.2.2.ok HK.out (by rw [if_pos ⟨rfl, hbb⟩]; omega)), hid ((HB1.out.alloc HB1.out.size _).alloc (by have := HB1.out.size; simp; omega) _)⟩
            case measure => rw [((hrg1.alloc _).alloc _).left_eq, hrg.left_eq]; exact hlt
        · have hd : decide ((0 : Int) < (k0.b : Int)) = false := by simp; omega
          go_wp2
          go_roundw
          case rel => exact ⟨_, cnt1, ver, rfl, (hrg1.alloc _).alloc _, hid (HM.out.step HD.out.2.2.ok HK.out (by rw [if_neg (by omega)])), hid ((HB1.out.alloc HB1.out.size _).alloc (by have := HB1.out.size; simp; omega) _)⟩
          case measure => rw [((hrg1.alloc _).alloc _).left_eq, hrg.left_eq]; exact hlt
      · have hd : ((g0 : Int) == (g : Int)) = false := by simp; omega
        go_wp2
        go_roundw
        case rel => exact ⟨_, cnt1, ver, rfl, (hrg1.alloc _).alloc _, hid (HM.out.step HD.out.2.2.ok HK.out (by rw [if_neg (by omega)])), hid ((HB1.out.alloc HB1.out.size _).alloc (by have := HB1.out.size; simp; omega) _)⟩
        case measure => rw [((hrg1.alloc _).alloc _).left_eq, hrg.left_eq]; exact hlt
end Go.Proofs.YtmiibakbcogolaaGreat.Ac
