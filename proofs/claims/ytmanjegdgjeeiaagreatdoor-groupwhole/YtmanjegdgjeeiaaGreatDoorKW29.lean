/-
  What the groups of alerts are, plainly: each alert is in its groups, whose labels are its own of the route's names; no group is empty, or there twice. What Of tells, in the words of the laws. The document's answer for P1.2, walked: stop, until, Byte and More of the reference. The number whose digits these are, as the reference tells it. number of the reference, walked. Text of the reference's reader, walked: what it tells is what the reader of the program tells. Text and Byte of the reference's reader, each in one contract: what the program's reader tells. Int of the reference's reader, walked. A block of two cells; bytes that lie below what turns. Calls of a reader, with an error or without, each in one contract. Calls of both readers, with an error or without, each in one contract. What Read does: the pairs that may be and have this key, or ErrForm. What Counts of package group does: how many noughts and ones there are in a list of texts and numbers by turns. An alert of one label; the closed case of every statement of layer 8; whether alerts are few and small.
-/
import Derived.Test.YtmanjegdgjeeiaaGreatDoorKW28
import Derived.Test.YtmanjegdgjeeiaaGreatDoorKW07
import Derived.Test.YtmanjegdgjeeiaaGreatDoorKW21
import Derived.Test.YtmanjegdgjeeiaaGreatDoorKW05
import Derived.Deep.RegionHeld3
import Derived.Laws.Rows
import Derived.Test.YtmanjegdgjeeiaaGreatDoorKW23
namespace Go.Proofs.YtmanjegdgjeeiaaGreatDoor
open Go.RowKit Go.Maps

theorem gKeyL_inj {z y : Nat} {ps qs : List Pr} (hz : z ≤ 1000) (hy : y ≤ 1000) (hp : Fit ps) (hq : Fit qs) (h : gKeyL z ps = gKeyL y qs) : z = y ∧ ps = qs := by
  have e : ∀ (n : Nat) (l : List Pr), gKeyL n l = 108 :: (putInt (n : Int) ++ ((partsK l).flatten ++ [101])) := fun n l => by simp [gKeyL, putList, partsQ]
  rw [e, e, List.cons.injEq] at h
  have h1 := read_putInt (z : Int) (by omega) (by omega) ((partsK ps).flatten ++ [101])
  have h2 := read_putInt (y : Int) (by omega) (by omega) ((partsK qs).flatten ++ [101])
  rw [h.2, h2] at h1
  simp only [Prod.mk.injEq, true_and] at h1
  refine ⟨by omega, keyL_inj hp hq ?_⟩
  have k : ∀ l : List Pr, keyL l = 108 :: ((partsK l).flatten ++ [101]) := fun l => by simp [keyL, putList]
  rw [k, k, h1.1]
/-- How groups are that were filled. -/
structure GsOk (l : List Rt) (G : List Gs) : Prop where
  rt : ∀ g ∈ G, g.rt < l.length
  some : ∀ g ∈ G, 0 < g.al.length
  fit : ∀ g ∈ G, Fit g.lb
  lab : ∀ g ∈ G, ∀ x ∈ g.al, pickL x.1 (bysAt l g.rt) = g.lb
  keys : (G.map Gs.key).Nodup
theorem GsOk.nil (l : List Rt) : GsOk l [] := ⟨(fun _ h => by cases h), (fun _ h => by cases h), (fun _ h => by cases h), (fun _ h => by cases h), List.nodup_nil⟩
theorem fit_pick {ps : List Pr} (h : Fit ps) (ns : List ByteArray) : Fit (pickL ps ns) := fun p hp => h p (List.mem_filter.1 hp).1
theorem putS_keys (z : Nat) (lb : List Pr) (x : List Pr × Int × Int) : ∀ G : List Gs, (putS z lb x G).map Gs.key = if gKeyL z lb ∈ G.map Gs.key then G.map Gs.key else G.map Gs.key ++ [gKeyL z lb]
  | [] => rfl
  | g :: G => by
    have ih := putS_keys z lb x G
    rw [putS]
    by_cases e : g.key = gKeyL z lb
    · rw [if_pos e, if_pos (by simp [e])]
      rfl
    · rw [if_neg e, List.map_cons, ih, List.map_cons]
      by_cases h : gKeyL z lb ∈ G.map Gs.key
      · rw [if_pos h, if_pos (List.mem_cons_of_mem _ h)]
      · rw [if_neg h, if_neg (fun h2 => by rcases List.mem_cons.1 h2 with h2 | h2; exact e h2.symm; exact h h2)]
        rfl
theorem putS_mem (z : Nat) (lb : List Pr) (x : List Pr × Int × Int) : ∀ (G : List Gs) (g : Gs), g ∈ putS z lb x G → g ∈ G ∨ g = ⟨z, lb, [x]⟩ ∨ ∃ h ∈ G, h.key = gKeyL z lb ∧ g = ⟨h.rt, h.lb, h.al ++ [x]⟩
  | [], g, hg => .inr (.inl (List.mem_singleton.1 hg))
  | h :: G, g, hg => by
    rw [putS] at hg
    split at hg
    · rename_i e
      rcases List.mem_cons.1 hg with rfl | hg
      · exact .inr (.inr ⟨h, by simp, e, rfl⟩)
      · exact .inl (List.mem_cons_of_mem _ hg)
    · rcases List.mem_cons.1 hg with rfl | hg
      · exact .inl (by simp)
      · rcases putS_mem z lb x G g hg with h1 | h1 | ⟨y, h1, h2, h3⟩
        · exact .inl (List.mem_cons_of_mem _ h1)
        · exact .inr (.inl h1)
        · exact .inr (.inr ⟨y, List.mem_cons_of_mem _ h1, h2, h3⟩)
theorem GsOk.put {l : List Rt} {G : List Gs} (h : GsOk l G) (hl : l.length ≤ 20) {z : Nat} (hz : z < l.length) {x : List Pr × Int × Int} (hx : Fit x.1) : GsOk l (stepS l x G z) := by
  unfold stepS
  have hfp := fit_pick hx (bysAt l z)
  have same : ∀ y ∈ G, y.key = gKeyL z (pickL x.1 (bysAt l z)) → y.rt = z ∧ y.lb = pickL x.1 (bysAt l z) := fun y hy e => gKeyL_inj (by have := h.rt y hy; omega) (by omega) (h.fit y hy) hfp e
  refine ⟨fun g hg => ?_, fun g hg => ?_, fun g hg => ?_, fun g hg => ?_, ?_⟩
  · rcases putS_mem _ _ _ _ _ hg with h1 | rfl | ⟨y, h1, h2, rfl⟩
    · exact h.rt g h1
    · exact hz
    · exact h.rt y h1
  · rcases putS_mem _ _ _ _ _ hg with h1 | rfl | ⟨y, h1, h2, rfl⟩
    · exact h.some g h1
    · simp
    · simp
  · rcases putS_mem _ _ _ _ _ hg with h1 | rfl | ⟨y, h1, h2, rfl⟩
    · exact h.fit g h1
    · exact hfp
    · exact h.fit y h1
  · rcases putS_mem _ _ _ _ _ hg with h1 | rfl | ⟨y, h1, h2, rfl⟩
    · exact h.lab g h1
    · intro u hu
      obtain rfl := List.mem_singleton.1 hu
      rfl
    · intro u hu
      rcases List.mem_append.1 hu with hu | hu
      · exact h.lab y h1 u hu
      · obtain rfl := List.mem_singleton.1 hu
        obtain ⟨e1, e2⟩ := same y h1 h2
        show pickL u.1 (bysAt l y.rt) = y.lb
        rw [e1, e2]
  · rw [putS_keys]
    split
    · exact h.keys
    · rename_i hno
      refine List.nodup_append.2 ⟨h.keys, by simp, fun a ha b hb e => ?_⟩
      rw [List.mem_singleton.1 hb] at e
      rw [e] at ha
      exact hno ha
theorem GsOk.steps {l : List Rt} (hl : l.length ≤ 20) {x : List Pr × Int × Int} (hx : Fit x.1) : ∀ (W : List Nat) (G : List Gs), (∀ z ∈ W, z < l.length) → GsOk l G → GsOk l (W.foldl (stepS l x) G)
  | [], _, _, h => h
  | z :: W, G, hW, h => GsOk.steps hl hx W _ (fun y hy => hW y (List.mem_cons_of_mem _ hy)) (h.put hl (hW z (by simp)) hx)
theorem GsOk.all {l : List Rt} {W : List Pr → List Nat} (hW : GoesOk l W) (hl : l.length ≤ 20) : ∀ (X : List (List Pr × Int × Int)) (G : List Gs), (∀ x ∈ X, Fit x.1) → GsOk l G → GsOk l (X.foldl (oneS l W) G)
  | [], _, _, h => h
  | x :: X, G, hX, h => GsOk.all hW hl X _ (fun y hy => hX y (List.mem_cons_of_mem _ hy)) (GsOk.steps hl (hX x (by simp)) (W x.1) G (fun z hz => hW.lt hz) h)
theorem ofS_ok {l : List Rt} {W : List Pr → List Nat} (hW : GoesOk l W) (hl : l.length ≤ 20) {X : List (List Pr × Int × Int)} (hX : ∀ x ∈ X, Fit x.1) : GsOk l (ofS l W X) := GsOk.all hW hl X [] hX (GsOk.nil l)
/-- How many alerts there are in all groups. -/
def goN (W : List Pr → List Nat) : List (List Pr × Int × Int) → Nat
  | [] => 0
  | x :: X => (W x.1).length + goN W X
theorem totS_all (l : List Rt) (W : List Pr → List Nat) : ∀ (X : List (List Pr × Int × Int)) (G : List Gs), totS (X.foldl (oneS l W) G) = totS G + goN W X
  | [], G => rfl
  | x :: X, G => by
    rw [List.foldl_cons, totS_all l W X]
    unfold oneS
    rw [totS_steps, goN]
    omega
theorem goN_perm (W : List Pr → List Nat) {X Y : List (List Pr × Int × Int)} (h : X.Perm Y) : goN W X = goN W Y := by
  induction h with
  | nil => rfl
  | cons x _ ih => simp only [goN, ih]
  | swap x y l => simp only [goN]; omega
  | trans _ _ h1 h2 => rw [h1, h2]
theorem totS_perm {G H : List Gs} (h : G.Perm H) : totS G = totS H := by
  induction h with
  | nil => rfl
  | cons x _ ih => simp only [totS, ih]
  | swap x y l => simp only [totS]; omega
  | trans _ _ h1 h2 => rw [h1, h2]

end Go.Proofs.YtmanjegdgjeeiaaGreatDoor
namespace Go.Proofs.YtmanjegdgjeeiaaGreatDoor
open Go.RowKit Go.Maps

/-- How many alerts there are in groups. -/
def totG : List Gm → Nat
  | [] => 0
  | g :: G => g.al.length + totG G
theorem totGm_sh : ∀ G : List Gm, totS (G.map Gm.sh) = totG G
  | [] => rfl
  | g :: G => by
    have := totGm_sh G
    simp only [List.map_cons, totS, totG, this]
    simp [Gm.sh]
theorem RwLight.fit {r : Rw} (h : RwLight r) : Fit r.ps := fun p hp => by have := h.2 p hp; omega
structure GmOk (l : List Rt) (W : List Pr → List Nat) (L : List Rw) (G : List Gm) : Prop where
  rt : ∀ g ∈ G, g.rt < l.length
  some : ∀ g ∈ G, 0 < g.al.length
  lab : ∀ g ∈ G, ∀ r ∈ g.al, pickL r.ps (bysAt l g.rt) = g.lb
  rise : G.Pairwise fun x y => x.less y
  tot : totG G = goN W (L.map Rw.sh)
theorem gm_ok {l : List Rt} {W : List Pr → List Nat} (hW : GoesOk l W) (hl : l.length ≤ 20) {L : List Rw} (hL : ∀ r ∈ L, RwLight r) {G : List Gm} (hp : (G.map Gm.sh).Perm (ofS l W ((sortR L).map Rw.sh))) (hs : G.Pairwise fun x y => ¬ y.less x) : GmOk l W L G := by
  have hok := ofS_ok hW hl (X := (sortR L).map Rw.sh) (fun x hx => by
    obtain ⟨r, hr, rfl⟩ := List.mem_map.1 hx
    exact (hL r ((sortR_perm L).mem_iff.1 hr)).fit)
  have mem : ∀ g ∈ G, g.sh ∈ ofS l W ((sortR L).map Rw.sh) := fun g hg => hp.mem_iff.1 (List.mem_map_of_mem hg)
  refine ⟨fun g hg => hok.rt _ (mem g hg), fun g hg => ?_, fun g hg r hr => hok.lab _ (mem g hg) r.sh (List.mem_map_of_mem hr), ?_, ?_⟩
  · have := hok.some _ (mem g hg)
    simpa [Gm.sh] using this
  · have hk : (G.map Gm.key).Nodup := by
      have h1 : ((G.map Gm.sh).map Gs.key).Nodup := (hp.map Gs.key).nodup_iff.2 hok.keys
      rw [List.map_map] at h1
      exact h1
    have hk2 : G.Pairwise fun x y => x.key ≠ y.key := by
      have := List.pairwise_map.1 hk
      exact this
    exact (hs.and hk2).imp fun {x y} h => by
      by_cases hxy : x.less y
      · exact hxy
      · exact absurd (Gm.less_or hxy h.1).2 h.2
  · rw [← totGm_sh, totS_perm hp]
    unfold ofS
    rw [totS_all, goN_perm W ((sortR_perm L).map Rw.sh)]
    simp [totS]

end Go.Proofs.YtmanjegdgjeeiaaGreatDoor
namespace Go.Proofs.YtmanjegdgjeeiaaGreatDoor
open Go.RowKit

/-- What until tells: the row and the error. -/
def untilOf (l : List UInt8) (ch : UInt8) (m : Nat) : List UInt8 × Int :=
  if Lib.indexByte (l.take (m + 1)) ch = -1 then ([], if m < l.length then 4 else 3) else (l.take (Lib.indexByte (l.take (m + 1)) ch).toNat, 0)

theorem index_at {l : List UInt8} {ch : UInt8} {m k : Nat} (hk : k < l.length) (hm : k ≤ m) (hb : ∀ j (hj : j < l.length), j < k → l[j] ≠ ch) (he : l[k] = ch) : Lib.indexByte (l.take (m + 1)) ch = k := by
  have e : l = l.take k ++ ch :: l.drop (k + 1) := by
    rw [← he, ← List.drop_eq_getElem_cons hk, List.take_append_drop]
  rw [e]
  have hl : (l.take k).length = k := by simp; omega
  have := index_behind (l.take k) (l.drop (k + 1)) ch m (fun x hx => by
    obtain ⟨j, hj, rfl⟩ := List.getElem_of_mem hx
    rw [List.length_take] at hj
    rw [List.getElem_take]
    exact hb j (by omega) (by omega)) (by omega)
  rw [this, hl]

theorem index_not {l : List UInt8} {ch : UInt8} {m : Nat} (hb : ∀ j (hj : j < l.length), j ≤ m → l[j] ≠ ch) : Lib.indexByte (l.take (m + 1)) ch = -1 := by
  have : ∀ (d : List UInt8), (∀ x ∈ d, x ≠ ch) → Lib.indexByte d ch = -1 := by
    intro d
    induction d with
    | nil => intro _; rfl
    | cons x d ih =>
      intro h
      have ih := ih (fun y hy => h y (List.mem_cons_of_mem _ hy))
      unfold Lib.indexByte
      have hx : (x == ch) = false := by simpa using h x (List.mem_cons_self ..)
      rw [hx, ih]
      rfl
  refine this _ (fun x hx => ?_)
  obtain ⟨j, hj, rfl⟩ := List.getElem_of_mem hx
  rw [List.length_take] at hj
  rw [List.getElem_take]
  exact hb j (by omega) (by omega)

/-- What is left behind k bytes. -/
theorem SrcAt.rest {w : World} {a : Option Addr} {c : Nat} {l : List UInt8} (h : SrcAt w (.slice a l.length c) l) (hc : l.length ≤ c) (k : Nat) (hk : k ≤ l.length) :
    SrcAt w (.slice (if c = k then a else a.map (·.add (k * 1))) (l.length - k) (c - k)) (l.drop k) := by
  have hl : (l.drop k).length = l.length - k := by simp
  rcases h with ⟨e, rfl⟩ | ⟨q, c', e, hcell⟩
  · simp only [Value.slice.injEq] at e
    obtain ⟨rfl, -, rfl⟩ := e
    obtain rfl : k = 0 := by simpa using hk
    exact .inl ⟨by simp, by simp⟩
  · simp only [Value.slice.injEq] at e
    obtain ⟨rfl, -, rfl⟩ := e
    by_cases hck : c = k
    · subst hck
      refine .inr ⟨q, 0, by rw [if_pos rfl, hl]; simp, fun i hi => by omega⟩
    · refine .inr ⟨q.add (k * 1), c - k, by rw [if_neg hck, hl]; rfl, fun i hi => ?_⟩
      rw [hl] at hi
      obtain ⟨b, o, s⟩ := q
      have h0 := hcell 0 (by omega)
      obtain rfl : s = none := by simpa [Addr.add] using World.cell?_spot h0
      rw [Go.WideShapes.add_plain, Go.WideShapes.add_plain, List.getElem_drop]
      have := hcell (k + i) (by omega)
      rw [Go.WideShapes.add_plain] at this
      rw [show o + k * 1 + i = o + (k + i) by omega]
      exact this

theorem bcell {W w1 : World} (hb : Below W.heap.size W w1) : (∀ b o, b < W.heap.size → w1.cell? ⟨b, o, none⟩ = W.cell? ⟨b, o, none⟩) ∧ (∀ b o, b < W.heap.size → w1.frozen? ⟨b, o, none⟩ = W.frozen? ⟨b, o, none⟩) :=
  ⟨fun b o h => hb.cell (p := ⟨b, o, none⟩) h, fun b o h => hb.frozen (p := ⟨b, o, none⟩) h⟩

theorem below_two {w w1 : World} (o1 o2 : Obj) (hb : Below (w.heap.size + 1 + 1) ((w.alloc o1).alloc o2) w1) (v : Value) (i : Nat) :
    Below w.heap.size w (w1.setCell ⟨w.heap.size + 1, i, none⟩ v) :=
  ((((Below.refl w.heap.size w).alloc (Nat.le_refl _) o1).alloc (by simp) o2).trans (hb.mono (by omega))).setCell (by simp) v

end Go.Proofs.YtmanjegdgjeeiaaGreatDoor
namespace Go.Proofs.YtmanjegdgjeeiaaGreatDoor
open Go.RowKit

/-- What digits stand for. -/
def valD (d : List UInt8) : Nat := d.foldl (fun a c => 10 * a + (c.toNat - 48)) 0
def AllD (d : List UInt8) : Prop := ∀ c ∈ d, 48 ≤ c.toNat ∧ c.toNat ≤ 57
theorem valD_snoc (d : List UInt8) (c : UInt8) : valD (d ++ [c]) = 10 * valD d + (c.toNat - 48) := by simp [valD]
theorem valD_take {d : List UInt8} {k : Nat} (hk : k < d.length) : valD (d.take (k + 1)) = 10 * valD (d.take k) + (d[k].toNat - 48) := by
  rw [List.take_succ_eq_append_getElem hk, valD_snoc]
theorem allD_take {d : List UInt8} {k : Nat} (hk : k < d.length) (h : AllD (d.take k)) (hc : 48 ≤ d[k].toNat ∧ d[k].toNat ≤ 57) : AllD (d.take (k + 1)) := by
  rw [List.take_succ_eq_append_getElem hk]
  intro c hm
  rcases List.mem_append.1 hm with hm | hm
  · exact h c hm
  · simp only [List.mem_singleton] at hm
    subst hm
    exact hc
theorem valD_lt {d : List UInt8} (h : AllD d) : ∀ k, k ≤ d.length → valD (d.take k) < 10 ^ k
  | 0, _ => by simp [valD]
  | k + 1, hk => by
    have ih := valD_lt h k (by omega)
    have hc := h d[k] (List.getElem_mem _)
    rw [valD_take (by omega), Nat.pow_succ]
    omega
theorem valD_bound {d : List UInt8} {k : Nat} (h : AllD (d.take k)) (hk : k ≤ d.length) (h18 : k ≤ 18) : valD (d.take k) ≤ 999999999999999999 := by
  have h1 := valD_lt h k (by simp; omega)
  rw [List.take_take, Nat.min_self] at h1
  have h2 : 10 ^ k ≤ 10 ^ 18 := Nat.pow_le_pow_right (by omega) h18
  have h3 : 10 ^ 18 = 1000000000000000000 := by decide
  omega
theorem valD_bound19 {d : List UInt8} {k : Nat} (h : AllD (d.take k)) (hk : k ≤ d.length) (h19 : k ≤ 19) : valD (d.take k) ≤ 9999999999999999999 := by
  have h1 := valD_lt h k (by simp; omega)
  rw [List.take_take, Nat.min_self] at h1
  have h2 : 10 ^ k ≤ 10 ^ 19 := Nat.pow_le_pow_right (by omega) h19
  have h3 : 10 ^ 19 = 10000000000000000000 := by decide
  omega
theorem valD_dec (u : Nat) : valD (Lib.decDigits u) = u := by
  induction u using Nat.strongRecOn with
  | _ u ih =>
    rw [Lib.decDigits]
    split
    · rename_i h
      simp only [valD, List.foldl_cons, List.foldl_nil]
      rw [digit_toNat h]
      omega
    · rename_i h
      rw [valD_snoc, ih (u / 10) (by omega), digit_toNat (by omega)]
      omega

theorem numOf_range {d : List UInt8} {n : Int} (h : numOf d = some n) : -9223372036854775808 ≤ n ∧ n ≤ 9223372036854775807 := by
  obtain ⟨hp, -⟩ := numOf_some h
  have hb := Lib.parseIntB_bounds (B := 64) hp
  have e : ((2 ^ (64 - 1) : Nat) : Int) = 9223372036854775808 := by decide
  rw [e] at hb
  omega

theorem itoa_neg {n : Int} (h : n < 0) : Lib.itoa n = 45 :: Lib.decDigits n.natAbs := by unfold Lib.itoa; rw [if_pos h]
theorem itoa_pos {n : Int} (h : ¬ n < 0) : Lib.itoa n = Lib.decDigits n.toNat := by unfold Lib.itoa; rw [if_neg h]

/-- The number below 64 bits with a sign. -/
theorem wrap_val {v : Nat} (h : v ≤ 9999999999999999999) : ∃ x : Int, IntKind.i64.wrap (v : Int) = x ∧ -9223372036854775808 ≤ x ∧ x ≤ 9223372036854775807 ∧ (v ≤ 9223372036854775807 → x = v) ∧ (v = 9223372036854775808 → x = -9223372036854775808) := by
  refine ⟨_, rfl, ?_⟩
  rw [IntKind.wrap_i64]
  omega
theorem wrap_neg {x : Int} (h0 : -9223372036854775808 ≤ x) (h1 : x ≤ 9223372036854775807) : ∃ y : Int, IntKind.i64.wrap (-x) = y ∧ -9223372036854775808 ≤ y ∧ y ≤ 9223372036854775807 ∧ (x = -9223372036854775808 → y = x) ∧ (x ≠ -9223372036854775808 → y = -x) := by
  refine ⟨_, rfl, ?_⟩
  rw [IntKind.wrap_i64]
  omega

theorem str_l (l : List UInt8) : (⟨l.toArray⟩ : ByteArray).data.toList = l := by simp
theorem extract_tail (s : ByteArray) : (s.extract 1 s.size).data.toList = s.data.toList.tail := by
  have h : s.data.toList.tail.length = s.size - 1 := by rw [List.length_tail]; rfl
  simp only [ByteArray.data_extract, Array.toList_extract, List.extract_eq_take_drop, List.drop_one]
  rw [← h, List.take_length]
theorem extract_one (x : UInt8) (l : List UInt8) : (⟨(x :: l).toArray⟩ : ByteArray).extract 1 (⟨(x :: l).toArray⟩ : ByteArray).size = ⟨l.toArray⟩ := by
  apply Go.WideShapes.bytes_inj
  exact (extract_tail _).trans (by simp)
theorem get_str (l : List UInt8) (k : Nat) (_h : k < (⟨l.toArray⟩ : ByteArray).size) (h2 : k < l.length) : (⟨l.toArray⟩ : ByteArray)[k] = l[k] := by
  show l.toArray[k] = l[k]
  simp
theorem size_str (l : List UInt8) : (⟨l.toArray⟩ : ByteArray).size = l.length := by show l.toArray.size = _; simp

end Go.Proofs.YtmanjegdgjeeiaaGreatDoor
namespace Go.Proofs.YtmanjegdgjeeiaaGreatDoor
open Go.RowKit

end Go.Proofs.YtmanjegdgjeeiaaGreatDoor
namespace Go.Proofs.YtmanjegdgjeeiaaGreatDoor
open Go.RowKit

theorem until_some {l : List UInt8} {ch : UInt8} {m k : Nat} (h : Lib.indexByte (l.take (m + 1)) ch = k) : untilOf l ch m = (l.take k, 0) := by
  unfold untilOf
  rw [if_neg (by omega), h, Int.toNat_natCast]
theorem until_none {l : List UInt8} {ch : UInt8} {m : Nat} (h : Lib.indexByte (l.take (m + 1)) ch = -1) : untilOf l ch m = ([], if m < l.length then 4 else 3) := by
  unfold untilOf
  rw [if_pos h]

/-- A text or none, with what is left: as the reader tells it. -/
abbrev refTexts (w w' : World) (a0 : Option Addr) (r : Ending) (res : List UInt8 × Int × List UInt8) : Prop :=
  (∃ a c, r = .returned (.tuple #[.agg #[.slice a res.1.length c, .int .i64 res.2.1], .string ⟨res.2.2.toArray⟩]) ∧ SrcAt w' (.slice a res.1.length c) res.1 ∧ res.1.length ≤ c ∧ ∀ q, a = some q → ∃ q0, a0 = some q0 ∧ q.block = q0.block) ∧ Below w.heap.size w w'

end Go.Proofs.YtmanjegdgjeeiaaGreatDoor
namespace Go.Proofs.YtmanjegdgjeeiaaGreatDoor
open Go.RowKit

theorem texts_stop {w w' : World} {r : Ending} {E : Int} (h : r = .returned (.tuple #[.agg #[.slice none 0 0, .int .i64 E], .string ⟨#[]⟩]) ∧ Below w.heap.size w w') {res : List UInt8 × Int × List UInt8} {a0 : Option Addr} (e : res = ([], E, [])) : refTexts w w' a0 r res := by
  subst e
  exact ⟨⟨none, 0, h.1, .inl ⟨rfl, rfl⟩, Nat.le_refl _, fun q hq => by cases hq⟩, h.2⟩

end Go.Proofs.YtmanjegdgjeeiaaGreatDoor
namespace Go.Proofs.YtmanjegdgjeeiaaGreatDoor
open Go.RowKit

/-- A number or none, with what is left: as the reader tells it. -/
abbrev refInts (w w' : World) (a0 : Option Addr) (r : Ending) (res : List UInt8 × Int × Int) : Prop :=
  (∃ a c, r = .returned (.tuple #[.agg #[.slice a res.1.length c, .int .i64 res.2.1], .int .i64 res.2.2]) ∧ SrcAt w' (.slice a res.1.length c) res.1 ∧ res.1.length ≤ c ∧ ∀ q, a = some q → ∃ q0, a0 = some q0 ∧ q.block = q0.block) ∧ Below w.heap.size w w'

theorem ints_stop {w w' : World} {r : Ending} {E : Int} (h : r = .returned (.tuple #[.agg #[.slice none 0 0, .int .i64 E], .int .i64 0]) ∧ Below w.heap.size w w') {res : List UInt8 × Int × Int} {a0 : Option Addr} (e : res = ([], E, 0)) : refInts w w' a0 r res := by
  subst e
  exact ⟨⟨none, 0, h.1, .inl ⟨rfl, rfl⟩, Nat.le_refl _, fun q hq => by cases hq⟩, h.2⟩

end Go.Proofs.YtmanjegdgjeeiaaGreatDoor
namespace Go.Proofs.YtmanjegdgjeeiaaGreatDoor
open Go.RowKit

/-- A block of two cells. -/
def Two (w : World) (b : Nat) (t : TypeId) (x y : Value) : Prop := w.heap[b]? = some (.cells #[x, y] t (0, 0))
theorem Two.c0 {w : World} {b : Nat} {t : TypeId} {x y : Value} (h : Two w b t x y) : w.cell? ⟨b, 0, none⟩ = some x := by rw [cell_of_row _ _ _ _ _ _ h]; rfl
theorem Two.c1 {w : World} {b : Nat} {t : TypeId} {x y : Value} (h : Two w b t x y) : w.cell? ⟨b, 1, none⟩ = some y := by rw [cell_of_row _ _ _ _ _ _ h]; rfl
theorem Two.fr {w : World} {b : Nat} {t : TypeId} {x y : Value} (h : Two w b t x y) (i : Nat) : w.frozen? ⟨b, i, none⟩ = false := frozen_of_row _ _ _ _ _ h
theorem Two.lt {w : World} {b : Nat} {t : TypeId} {x y : Value} (h : Two w b t x y) : b < w.heap.size := (Array.getElem?_eq_some_iff.1 h).1
theorem Two.set0 {w : World} {b : Nat} {t : TypeId} {x y : Value} (h : Two w b t x y) (v : Value) : Two (w.setCell ⟨b, 0, none⟩ v) b t v y := heap_setCell_same w b 0 _ t v h
theorem Two.set1 {w : World} {b : Nat} {t : TypeId} {x y : Value} (h : Two w b t x y) (v : Value) : Two (w.setCell ⟨b, 1, none⟩ v) b t x v := heap_setCell_same w b 1 _ t v h
theorem Two.far {w : World} {b : Nat} {t : TypeId} {x y : Value} (h : Two w b t x y) (p : Addr) (hp : b ≠ p.block) (v : Value) : Two (w.setCell p v) b t x y := (heap_setCell_other w p b v hp).trans h
theorem Two.below {w w' : World} {b B : Nat} {t : TypeId} {x y : Value} (h : Two w b t x y) (hb : Below B w w') (hB : b < B) : Two w' b t x y := (hb.block b hB).trans h
theorem Two.grown {w w' : World} {b : Nat} {t : TypeId} {x y : Value} {r : Option Nat} (h : Two w b t x y) (hg : w.grownBy w' r) (hr : some b ≠ r) : Two w' b t x y := (hg.block b h.lt hr).trans h
theorem Two.new (w : World) (t : TypeId) (x y : Value) : Two (w.alloc (.cells #[x, y] t)) w.heap.size t x y := heap_alloc_new _ _

theorem SrcAt.low {w w' : World} {a : Option Addr} {n c B : Nat} {l : List UInt8} (h : SrcAt w (.slice a n c) l) (hb : Below B w w') (hq : ∀ q, a = some q → q.block < B) : SrcAt w' (.slice a n c) l := by
  rcases h with h | ⟨q, c', e, hc⟩
  · exact .inl h
  · refine .inr ⟨q, c', e, fun i hi => ?_⟩
    have hq' : q.block < B := hq q (by simp only [Value.slice.injEq] at e; exact e.1)
    rw [hb.cell (p := q.add i) (by rw [add_block]; exact hq')]
    exact hc i hi

end Go.Proofs.YtmanjegdgjeeiaaGreatDoor
namespace Go.Proofs.YtmanjegdgjeeiaaGreatDoor
open Go.RowKit

def intE (e : Int) (l : List UInt8) : List UInt8 × Int × Int := if e = 0 then rdInt l else ([], e, 0)
def textE (most e : Int) (l : List UInt8) : List UInt8 × Int × List UInt8 := if e = 0 then rdText most l else ([], e, [])
def byteE (ch : UInt8) (e : Int) (l : List UInt8) : List UInt8 × Int := if e = 0 then rdByte ch l else ([], e)
theorem ne_bool {e : Int} (h : ¬ e = 0) : (e != 0) = true := by simpa using h

theorem rInt_full (rb : Nat) (a : Option Addr) (c : Nat) (l : List UInt8) (e : Int) (B : Nat) (w : World) (h : Rd w rb a c l e) (hB : B ≤ rb) (hv : VarsOk B w) {l1 : List UInt8} {e1 n : Int} (hT : intE e l = (l1, e1, n)) :
    Calls Tryz.prog 52 #[.pointer (some ⟨rb, 0, none⟩)] w fun r w' => r = .returned (.int .i64 n) ∧ (∃ a c, Rd w' rb a c l1 e1) ∧ w.grownBy w' (some rb) := by
  by_cases h0 : e = 0
  · subst h0
    have := rInt_any rb a c l B w h hB hv
    rw [show rdInt l = (l1, e1, n) from hT] at this
    exact this
  · obtain rfl := h.err h0
    simp only [intE, if_neg h0, Prod.mk.injEq] at hT
    obtain ⟨rfl, rfl, rfl⟩ := hT
    exact (rInt_err rb a c [] e w h (ne_bool h0)).mono fun r w' ⟨h1, h2⟩ => ⟨h1, ⟨a, c, by rw [h2]; exact h⟩, by rw [h2]; exact grownBy_refl w _⟩
theorem rText_full (rb : Nat) (a : Option Addr) (c : Nat) (l : List UInt8) (e most : Int) (B : Nat) (w : World) (h : Rd w rb a c l e) (hB : B ≤ rb) (hv : VarsOk B w) {l1 s : List UInt8} {e1 : Int} (hT : textE most e l = (l1, e1, s)) :
    Calls Tryz.prog 51 #[.pointer (some ⟨rb, 0, none⟩), .int .i64 most] w fun r w' => r = .returned (.string ⟨s.toArray⟩) ∧ (∃ a c, Rd w' rb a c l1 e1) ∧ w.grownBy w' (some rb) := by
  by_cases h0 : e = 0
  · subst h0
    exact rText_eq rb a c l most B w h hB hv hT
  · obtain rfl := h.err h0
    simp only [textE, if_neg h0, Prod.mk.injEq] at hT
    obtain ⟨rfl, rfl, rfl⟩ := hT
    exact (rText_err rb a c [] e most w h (ne_bool h0)).mono fun r w' ⟨h1, h2⟩ => ⟨h1, ⟨a, c, by rw [h2]; exact h⟩, by rw [h2]; exact grownBy_refl w _⟩
theorem Open_full (rb : Nat) (a : Option Addr) (c : Nat) (l : List UInt8) (e : Int) (w : World) (h : Rd w rb a c l e) {l1 : List UInt8} {e1 : Int} (hT : byteE 108 e l = (l1, e1)) :
    Calls Tryz.prog 49 #[.pointer (some ⟨rb, 0, none⟩)] w fun r w' => r = .returned (.tuple #[]) ∧ (∃ a c, Rd w' rb a c l1 e1) ∧ w.grownBy w' (some rb) := by
  by_cases h0 : e = 0
  · subst h0
    have := Open_any rb a c l w h
    rw [show rdByte 108 l = (l1, e1) from hT] at this
    exact this
  · obtain rfl := h.err h0
    simp only [byteE, if_neg h0, Prod.mk.injEq] at hT
    obtain ⟨rfl, rfl⟩ := hT
    exact (Open_err rb a c [] e w h (ne_bool h0)).mono fun r w' ⟨h1, h2⟩ => ⟨h1, ⟨a, c, by rw [h2]; exact h⟩, by rw [h2]; exact grownBy_refl w _⟩
theorem Close_full (rb : Nat) (a : Option Addr) (c : Nat) (l : List UInt8) (e : Int) (w : World) (h : Rd w rb a c l e) {l1 : List UInt8} {e1 : Int} (hT : byteE 101 e l = (l1, e1)) :
    Calls Tryz.prog 53 #[.pointer (some ⟨rb, 0, none⟩)] w fun r w' => r = .returned (.tuple #[]) ∧ (∃ a c, Rd w' rb a c l1 e1) ∧ w.grownBy w' (some rb) := by
  by_cases h0 : e = 0
  · subst h0
    have := Close_any rb a c l w h
    rw [show rdByte 101 l = (l1, e1) from hT] at this
    exact this
  · obtain rfl := h.err h0
    simp only [byteE, if_neg h0, Prod.mk.injEq] at hT
    obtain ⟨rfl, rfl⟩ := hT
    exact (Close_err rb a c [] e w h (ne_bool h0)).mono fun r w' ⟨h1, h2⟩ => ⟨h1, ⟨a, c, by rw [h2]; exact h⟩, by rw [h2]; exact grownBy_refl w _⟩

/-- Errors leave nothing; nothing grows. -/
theorem intE_err {e : Int} {l l1 : List UInt8} {e1 n : Int} (h : intE e l = (l1, e1, n)) : (e1 ≠ 0 → l1 = []) ∧ l1.length ≤ l.length := by
  by_cases h0 : e = 0
  · subst h0
    have hr : rdInt l = (l1, e1, n) := h
    by_cases h1 : e1 = 0
    · subst h1
      rw [rdInt_laid hr]
      exact ⟨fun h => absurd rfl h, by simp⟩
    · have : l1 = [] := by
        cases l with
        | nil => simp [rdInt] at hr; exact hr.1
        | cons x l =>
          simp only [rdInt] at hr
          split at hr
          · simp at hr; exact hr.1
          · split at hr
            · split at hr <;> (simp at hr; exact hr.1)
            · split at hr
              · simp only [Prod.mk.injEq] at hr; exact absurd hr.2.1.symm h1
              · simp at hr; exact hr.1
      rw [this]
      exact ⟨fun _ => rfl, Nat.zero_le _⟩
  · simp only [intE, if_neg h0, Prod.mk.injEq] at h
    obtain ⟨rfl, -, -⟩ := h
    exact ⟨fun _ => rfl, Nat.zero_le _⟩
theorem textE_err {most e : Int} {l l1 s : List UInt8} {e1 : Int} (h : textE most e l = (l1, e1, s)) : (e1 ≠ 0 → l1 = []) ∧ l1.length ≤ l.length := by
  by_cases h0 : e = 0
  · subst h0
    have hr : rdText most l = (l1, e1, s) := h
    by_cases h1 : e1 = 0
    · subst h1
      rw [rdText_laid hr]
      exact ⟨fun h => absurd rfl h, by simp⟩
    · have : l1 = [] := by
        cases l with
        | nil => simp [rdText] at hr; exact hr.1
        | cons x l =>
          simp only [rdText] at hr
          split at hr
          · simp at hr; exact hr.1
          · split at hr
            · split at hr <;> (simp at hr; exact hr.1)
            · split at hr
              · simp at hr; exact hr.1
              · split at hr
                · simp at hr; exact hr.1
                · split at hr
                  · simp at hr; exact hr.1
                  · split at hr
                    · simp at hr; exact hr.1
                    · simp only [Prod.mk.injEq] at hr; exact absurd hr.2.1.symm h1
      rw [this]
      exact ⟨fun _ => rfl, Nat.zero_le _⟩
  · simp only [textE, if_neg h0, Prod.mk.injEq] at h
    obtain ⟨rfl, -, -⟩ := h
    exact ⟨fun _ => rfl, Nat.zero_le _⟩
theorem byteE_err {ch : UInt8} {e : Int} {l l1 : List UInt8} {e1 : Int} (h : byteE ch e l = (l1, e1)) : (e1 ≠ 0 → l1 = []) ∧ l1.length ≤ l.length := by
  by_cases h0 : e = 0
  · subst h0
    have hr : rdByte ch l = (l1, e1) := h
    cases l with
    | nil =>
      simp only [rdByte, Prod.mk.injEq] at hr
      obtain ⟨rfl, -⟩ := hr
      exact ⟨fun _ => rfl, Nat.zero_le _⟩
    | cons x l =>
      simp only [rdByte] at hr
      split at hr
      · simp only [Prod.mk.injEq] at hr
        obtain ⟨rfl, rfl⟩ := hr
        exact ⟨fun h => absurd rfl h, by simp⟩
      · simp only [Prod.mk.injEq] at hr
        obtain ⟨rfl, -⟩ := hr
        exact ⟨fun _ => rfl, Nat.zero_le _⟩
  · simp only [byteE, if_neg h0, Prod.mk.injEq] at h
    obtain ⟨rfl, -⟩ := h
    exact ⟨fun _ => rfl, Nat.zero_le _⟩

end Go.Proofs.YtmanjegdgjeeiaaGreatDoor
namespace Go.Proofs.YtmanjegdgjeeiaaGreatDoor
open Go.RowKit

/-- What is left of the reference's reader. -/
structure XS (w : World) (a : Option Addr) (c : Nat) (l : List UInt8) (e : Int) : Prop where
  src : SrcAt w (.slice a l.length c) l
  cap : l.length ≤ c
  lim : l.length ≤ 140737488355328
  err : e ≠ 0 → l = []

theorem XS.low {w w' : World} {a : Option Addr} {c : Nat} {l : List UInt8} {e : Int} {B : Nat} (h : XS w a c l e) (hb : Below B w w') (hq : ∀ q, a = some q → q.block < B) : XS w' a c l e := ⟨h.src.low hb hq, h.cap, h.lim, h.err⟩
theorem XS.below {w w' : World} {a : Option Addr} {c : Nat} {l : List UInt8} {e : Int} (h : XS w a c l e) (hb : Below w.heap.size w w') : XS w' a c l e := ⟨h.src.below hb (Nat.le_refl _), h.cap, h.lim, h.err⟩

end Go.Proofs.YtmanjegdgjeeiaaGreatDoor
namespace Go.Proofs.YtmanjegdgjeeiaaGreatDoor
open Go.RowKit

theorem bytes_of_string (w : World) (s : ByteArray) : ∃ a c w', (convert 9 86 (.string s)).run Tryz.prog w = .ok (.slice (some a) s.size c) w' ∧ SrcAt w' (.slice (some a) s.size c) s.data.toList ∧ Below w.heap.size w w' := by
  refine ⟨⟨w.heap.size, 0, none⟩, _, _, Lib.run_convert_string_bytes w 9 86 5 s Tryz.underlying9 Tryz.underlying86 Tryz.underlying5, .inr ⟨_, _, rfl, fun i hi => ?_⟩, Lib.bytesWorld_below _ _ _⟩
  rw [Go.WideShapes.add_plain, Nat.zero_add, Lib.bytesWorld_cell w 5 s i (by show i < s.data.size; simpa using hi)]
  rw [List.getD_eq_getElem?_getD, List.getElem?_eq_getElem hi]
  rfl

theorem own_above {w : World} {B rb : Nat} {v : Value} {ps : List Pr} (h : OwnP w B v ps) (hr : rb < B) : v.ownBlock = none ∨ v.ownBlock ≠ some rb := by
  refine .inr fun e => ?_
  have := (World.ownsRow.lt h rb e).1
  omega

theorem OwnP.le {w : World} {B B' : Nat} {v : Value} {ps : List Pr} (h : OwnP w B v ps) (hB : B' ≤ B) : OwnP w B' v ps :=
  ⟨h.1, h.2.imp id fun ⟨g, cap, cur, h1, h2, h3⟩ => ⟨g, cap, cur, h1, Nat.le_trans hB h2, h3⟩⟩

/-- Read's answer: the pairs, or none. -/
def ReadAns (w w' : World) (key : List UInt8) (e : Ending) : Prop :=
  (∃ a c, ∃ ps : List Pr, e = .returned (.tuple #[.slice a ps.length c, .int .i64 0]) ∧ OwnP w' w.heap.size (.slice a ps.length c) ps ∧ checkE ps = 0 ∧ key = keyL ps) ∨
  (e = .returned (.tuple #[.slice none 0 0, .int .i64 4]) ∧ ∀ qs, checkE qs = 0 → key ≠ keyL qs)

end Go.Proofs.YtmanjegdgjeeiaaGreatDoor
namespace Go.Proofs.YtmanjegdgjeeiaaGreatDoor
open Go.RowKit

/-- The counts of what is left, with an error or without. -/
def cnt (most : Int) : Nat → List UInt8 → Int → Int → Int → Int × Int
  | 0, _, _, _, _ => (0, 0)
  | f + 1, l, e, a, b => if moreB l = true then
      (if (intE (textE most e l).2.1 (textE most e l).1).2.1 ≠ 0 ∨ ((intE (textE most e l).2.1 (textE most e l).1).2.2 ≠ 0 ∧ (intE (textE most e l).2.1 (textE most e l).1).2.2 ≠ 1) then (0, 0) else
        if (intE (textE most e l).2.1 (textE most e l).1).2.2 = 1 then cnt most f (intE (textE most e l).2.1 (textE most e l).1).1 (intE (textE most e l).2.1 (textE most e l).1).2.1 (a + 1) b
        else cnt most f (intE (textE most e l).2.1 (textE most e l).1).1 (intE (textE most e l).2.1 (textE most e l).1).2.1 a (b + 1))
    else if (byteE 101 e l).2 ≠ 0 ∨ 0 < (byteE 101 e l).1.length then (0, 0) else (a, b)
def countsP (s : List UInt8) : Int × Int := cnt s.length (s.length + 1) (byteE 108 0 s).1 (byteE 108 0 s).2 0 0

theorem cnt_err (most : Int) {e : Int} (he : e ≠ 0) (f : Nat) (a b : Int) : cnt most f [] e a b = (0, 0) := by
  cases f with
  | zero => rfl
  | succ f =>
    rw [cnt, if_neg (by simp [moreB]), if_pos]
    left
    unfold byteE
    rw [if_neg he]
    exact he
theorem byteE_le (ch : UInt8) (e : Int) (l : List UInt8) : (byteE ch e l).1.length ≤ l.length := by
  obtain ⟨l1, e1, h⟩ : ∃ l1 e1, byteE ch e l = (l1, e1) := ⟨_, _, rfl⟩
  rw [h]
  exact (byteE_err h).2
/-- What one round leaves to be counted. -/
structure CntTo (most : Int) (l : List UInt8) (e a b : Int) (R : Int × Int) : Prop where
  is : ∃ f, l.length < f ∧ cnt most f l e a b = R
theorem CntTo.round {most : Int} {l l1 l2 s1 : List UInt8} {e e1 e2 n a b : Int} {R : Int × Int} (h : CntTo most l e a b R) (hm : moreB l = true) (hT : textE most e l = (l1, e1, s1)) (hI : intE e1 l1 = (l2, e2, n)) (hlt : l2.length < l.length) :
    (n = 0 → CntTo most l2 e2 a (b + 1) R) ∧ (n = 1 → CntTo most l2 e2 (a + 1) b R) ∧ (n ≠ 0 → n ≠ 1 → R = (0, 0)) ∧ (e2 ≠ 0 → R = (0, 0)) := by
  obtain ⟨f, hf, hR⟩ := h.is
  cases f with
  | zero => omega
  | succ f =>
    rw [cnt, if_pos hm] at hR
    simp only [hT, hI] at hR
    have hz : e2 ≠ 0 → R = (0, 0) := fun he => by rw [← hR, if_pos (.inl he)]
    have hl2 : e2 ≠ 0 → l2 = [] := (intE_err hI).1
    refine ⟨fun hn => ?_, fun hn => ?_, fun h0 h1 => by rw [← hR, if_pos (.inr ⟨h0, h1⟩)], hz⟩
    · by_cases he : e2 = 0
      · rw [if_neg (by omega), if_neg (by omega)] at hR
        exact ⟨f, by omega, hR⟩
      · rw [hl2 he, hz he]
        exact ⟨1, by simp, cnt_err most he 1 a (b + 1)⟩
    · by_cases he : e2 = 0
      · rw [if_neg (by omega), if_pos hn] at hR
        exact ⟨f, by omega, hR⟩
      · rw [hl2 he, hz he]
        exact ⟨1, by simp, cnt_err most he 1 (a + 1) b⟩
theorem CntTo.out {most : Int} {l l3 : List UInt8} {e e3 a b : Int} {R : Int × Int} (h : CntTo most l e a b R) (hm : moreB l = false) (hB : byteE 101 e l = (l3, e3)) : (e3 ≠ 0 → R = (0, 0)) ∧ (e3 = 0 → 0 < l3.length → R = (0, 0)) ∧ (e3 = 0 → l3.length = 0 → R = (a, b)) := by
  obtain ⟨f, hf, hR⟩ := h.is
  cases f with
  | zero => omega
  | succ f =>
    rw [cnt, if_neg (by rw [hm]; simp)] at hR
    simp only [hB] at hR
    exact ⟨fun he => by rw [← hR, if_pos (.inl he)], fun _ hl => by rw [← hR, if_pos (.inr hl)], fun he hl => by rw [← hR, if_neg (by omega)]⟩
theorem textI_less {most : Int} {l l1 l2 s1 : List UInt8} {e e1 e2 n : Int} (hm : moreB l = true) (hT : textE most e l = (l1, e1, s1)) (hI : intE e1 l1 = (l2, e2, n)) : l2.length < l.length := by
  have hp := moreB_pos hm
  have h2 := (intE_err hI).2
  have h1 : l1.length < l.length := by
    by_cases he : e = 0
    · subst he
      exact rdText_less (most := most) (show rdText most l = (l1, e1, s1) from hT) hp
    · simp only [textE, if_neg he, Prod.mk.injEq] at hT
      rw [← hT.1]
      simpa using hp
  omega

set_option maxHeartbeats 4000000 in
set_option maxRecDepth 100000 in
theorem gCounts_any (s : ByteArray) (B : Nat) (w : World) (hs : s.size ≤ 1099511627776) (hB : B ≤ w.heap.size) (hv : VarsOk B w) :
    Calls Tryz.prog 18 #[.string s] w fun e w' => e = .returned (.tuple #[.int .i64 (countsP s.data.toList).1, .int .i64 (countsP s.data.toList).2]) ∧ Below w.heap.size w w' := by
  obtain ⟨a1, c1, w1, hcv, hsrc, hb1⟩ := bytes_of_string w s
  have hs1 := hb1.size
  have hkl : s.data.toList.length = s.size := rfl
  have HN := Lib.hid (New_any _ s.data.toList w1 hsrc (by omega))
  obtain ⟨R, hR⟩ : ∃ R, R = countsP s.data.toList := ⟨_, rfl⟩
  rw [← hR]
  have hst : CntTo s.size (byteE 108 0 s.data.toList).1 (byteE 108 0 s.data.toList).2 0 0 R := ⟨s.data.toList.length + 1, by
    have := byteE_le 108 0 s.data.toList
    omega, by rw [hR]; rfl⟩
  have hl3 := byteE_le 108 0 s.data.toList
  have HST := Lib.hid hst
  have HKL := Lib.hid hkl
  clear hkl hsrc hst hR
  generalize s.data.toList = key at *
  obtain ⟨l3, e3, hO⟩ : ∃ l3 e3, byteE 108 0 key = (l3, e3) := ⟨_, _, rfl⟩
  rw [hO] at HST hl3
  have HO := Lib.hid hO
  clear hO
  have hl3' : l3.length ≤ s.size := by rw [← HKL.out]; exact hl3
  clear hl3
  go_enter Tryz.func18, Tryz.ntmps18
  go_wp2_with (go_at_call 48; refine HN.out.mono ?_; rintro e w2 ⟨rb, a2, c2, rfl, hrd2, hrb, -, hb2⟩; refine Hid.out ?_)
  refine Lib.hid ?_
  have hs2 := hb2.size
  have hn2 := hb1.trans (hb2.mono hs1)
  have hrl := hrd2.blk.lt
  go_wp2_with (go_at_call 49; refine (Open_full rb a2 c2 key 0 _ hrd2 HO.out).mono ?_; rintro e w3 ⟨rfl, ⟨a3, c3, hrd3⟩, hg3⟩; refine Hid.out ?_)
  refine Lib.hid ?_
  have hs3 := hg3.size
  have hn3 : Below w.heap.size w w3 := hn2.trans (below_of_grownBy hg3 (by omega) (by omega))
  clear hrd2 hg3 hb2 HN hcv hb1
  go_wp2
  go_loopw [2, 3] (fun v2 v3 wr => ∃ (a b : Nat) (l : List UInt8) (e : Int) (ar : Option Addr) (cr : Nat), v2 = .int .i64 a ∧ v3 = .int .i64 b ∧ Rd wr rb ar cr l e ∧ Hid (CntTo s.size l e a b R) ∧ Below w.heap.size w wr ∧ w3.heap.size ≤ wr.heap.size ∧ a + b + l.length ≤ s.size) (fun _ _ wr => leftN rb wr)
  case atStart => exact ⟨0, 0, l3, e3, a3, c3, rfl, rfl, hrd3, HST, hn3, Nat.le_refl _, by omega⟩
  case round =>
    obtain ⟨a, b, l, e, ar, cr, rfl, rfl, hrd, HC, hnx, hsz, hab⟩ := hrel
    have hvr := hv.on (hnx.mono hB)
    have HL := Lib.hid hrd.leftN
    have HMo := Lib.hid (More_any rb ar cr l e wr hrd)
    by_cases hm : moreB l = true
    · obtain ⟨l1, e1, s1, hT⟩ : ∃ l1 e1 s1, textE s.size e l = (l1, e1, s1) := ⟨_, _, _, rfl⟩
      obtain ⟨l2, e2, n, hI⟩ : ∃ l2 e2 n, intE e1 l1 = (l2, e2, n) := ⟨_, _, _, rfl⟩
      have hlt := textI_less hm hT hI
      have HR := Lib.hid (HC.out.round hm hT hI hlt)
      have HT := Lib.hid (rText_full rb ar cr l e s.size B wr hrd (by omega) hvr hT)
      have HI := Lib.hid hI
      rw [hm] at HMo
      clear hm hT hI HC
      go_wp2_with (go_at_call 50; refine HMo.out.mono ?_; rintro e w4 ⟨rfl, rfl⟩; refine Hid.out ?_)
      refine Lib.hid ?_
      go_wp2_with (go_at_call 51; refine HT.out.mono ?_; rintro e w5 ⟨rfl, ⟨ar5, cr5, hrd5⟩, hg5⟩; refine Hid.out ?_)
      refine Lib.hid ?_
      have hb5 : Below w.heap.size w4 w5 := below_of_grownBy hg5 (by omega) (by omega)
      have hn5 := hnx.trans hb5
      have hs5 := hg5.size
      have HI5 := Lib.hid (rInt_full rb ar5 cr5 l1 e1 B w5 hrd5 (by omega) (hv.on (hn5.mono hB)) HI.out)
      clear hrd5 hg5 hb5 HT HMo hrd
      go_wp2_with (go_at_call 52; refine HI5.out.mono ?_; rintro e w6 ⟨rfl, ⟨ar6, cr6, hrd6⟩, hg6⟩; refine Hid.out ?_)
      refine Lib.hid ?_
      have hb6 : Below w.heap.size w5 w6 := below_of_grownBy hg6 (by omega) (by omega)
      have hn6 := hn5.trans hb6
      have hs6 := hg6.size
      clear hg6 hb6 HI5 HI hvr hnx hn5
      by_cases h0 : n = 0
      · subst h0
        have HN0 := Lib.hid (HR.out.1 rfl)
        clear HR
        go_wp2
        go_roundw
        case rel => exact ⟨a, b + 1, l2, e2, ar6, cr6, rfl, by go_num, hrd6, Lib.hid (by have := HN0.out; simpa using this), hn6, by omega, by omega⟩
        case measure => rw [hrd6.leftN, HL.out]; exact hlt
      · by_cases h1 : n = 1
        · subst h1
          have HN1 := Lib.hid (HR.out.2.1 rfl)
          clear HR h0
          go_wp2
          go_roundw
          case rel => exact ⟨a + 1, b, l2, e2, ar6, cr6, by go_num, rfl, hrd6, Lib.hid (by have := HN1.out; simpa using this), hn6, by omega, by omega⟩
          case measure => rw [hrd6.leftN, HL.out]; exact hlt
        · have hz0 : (n == 0) = false := by rw [beq_eq_false_iff_ne]; exact h0
          have hz1 : (n == 1) = false := by rw [beq_eq_false_iff_ne]; exact h1
          have HRR := Lib.hid (HR.out.2.2.1 h0 h1)
          have HN6 := Lib.hid hn6
          clear HR h0 h1 hrd6 hn6
          go_wp2
          go_ret2
          exact ⟨by rw [HRR.out]; rfl, HN6.out⟩
    · have hm' : moreB l = false := by simpa using hm
      rw [hm'] at HMo
      obtain ⟨l4, e4, hB4⟩ : ∃ l4 e4, byteE 101 e l = (l4, e4) := ⟨_, _, rfl⟩
      have HR := Lib.hid (HC.out.out hm' hB4)
      have HCl := Lib.hid (Close_full rb ar cr l e wr hrd hB4)
      clear hm hm' hB4 HC hrd
      go_wp2_with (go_at_call 50; refine HMo.out.mono ?_; rintro e w4 ⟨rfl, rfl⟩; refine Hid.out ?_)
      refine Lib.hid ?_
      go_wp2_with (go_at_call 53; refine HCl.out.mono ?_; rintro e w5 ⟨rfl, ⟨ar5, cr5, hrd5⟩, hg5⟩; refine Hid.out ?_)
      refine Lib.hid ?_
      have HN5 := Lib.hid (hnx.trans (below_of_grownBy hg5 (B := w.heap.size) (by omega) (by omega)))
      have HE := Lib.hid (Err_any rb ar5 cr5 l4 e4 w5 hrd5)
      have HLf := Lib.hid (Left_any rb ar5 cr5 l4 e4 w5 hrd5)
      clear hg5 hrd5 HMo HCl hnx hvr HL
      by_cases h4 : e4 = 0
      · subst h4
        by_cases hl4 : 0 < l4.length
        · have hl4z : (0 : Int) < (l4.length : Int) := by omega
          have HRR := Lib.hid (HR.out.2.1 rfl hl4)
          clear HR
          go_wp2_with (first
            | (go_at_call 54; refine HE.out.mono ?_; rintro e w6 ⟨rfl, rfl⟩)
            | (go_at_call 55; refine HLf.out.mono ?_; rintro e w6 ⟨rfl, rfl⟩))
          go_ret2
          exact ⟨by rw [HRR.out]; rfl, HN5.out⟩
        · have hl4z : ¬ (0 : Int) < (l4.length : Int) := by omega
          have HRR := Lib.hid (HR.out.2.2 rfl (by omega))
          clear HR
          go_wp2_with (first
            | (go_at_call 54; refine HE.out.mono ?_; rintro e w6 ⟨rfl, rfl⟩)
            | (go_at_call 55; refine HLf.out.mono ?_; rintro e w6 ⟨rfl, rfl⟩))
          go_ret2
          exact ⟨by rw [HRR.out]; rfl, HN5.out⟩
      · have hz4 : (e4 != 0) = true := by simpa using h4
        have HRR := Lib.hid (HR.out.1 h4)
        clear HR h4
        go_wp2_with (first
          | (go_at_call 54; refine HE.out.mono ?_; rintro e w6 ⟨rfl, rfl⟩)
          | (go_at_call 55; refine HLf.out.mono ?_; rintro e w6 ⟨rfl, rfl⟩))
        go_ret2
        exact ⟨by rw [HRR.out]; rfl, HN5.out⟩

end Go.Proofs.YtmanjegdgjeeiaaGreatDoor
namespace Go.Proofs.YtmanjegdgjeeiaaGreatDoor
open Go.RowKit

theorem cellG {w : World} {b j : Nat} {cs : Array Value} {t : TypeId} {fr : Nat × Nat} (h : w.heap[b]? = some (.cells cs t fr)) : w.cell? ⟨b, j, none⟩ = cs[j]? := by simp [World.cell?, h]

/-- The labels of the closed case. -/
def psA (v : ByteArray) : List Pr := [(⟨#[97]⟩, v)]

set_option maxHeartbeats 1000000 in
theorem gwOne_any (v : ByteArray) (w : World) :
    Calls Tryz.prog 19 #[.string v] w fun r w' => r = .returned (.agg #[.slice (some ⟨w.heap.size + 1, 0, none⟩) 1 1, .int .i64 1, .int .i64 5]) ∧ PairsAt w' (some ⟨w.heap.size + 1, 0, none⟩) (psA v) ∧ Below w.heap.size w w' := by
  have d1 := (Below.refl w.heap.size w).alloc (Nat.le_refl _) (.cells #[.slice (some ⟨w.heap.size + 1, 0, none⟩) 1 1, .int .i64 1, .int .i64 5] 42)
  have d2 := d1.alloc (by simp) (.cells #[.string ⟨#[97]⟩, .string v] 57)
  have s1 : (w.alloc (.cells #[.slice (some ⟨w.heap.size + 1, 0, none⟩) 1 1, .int .i64 1, .int .i64 5] 42)).heap.size = w.heap.size + 1 := by simp
  have c2 := heap_alloc_new (w.alloc (.cells #[.slice (some ⟨w.heap.size + 1, 0, none⟩) 1 1, .int .i64 1, .int .i64 5] 42)) (.cells #[.string ⟨#[97]⟩, .string v] 57)
  rw [s1] at c2
  have hP : PairsAt ((w.alloc (.cells #[.slice (some ⟨w.heap.size + 1, 0, none⟩) 1 1, .int .i64 1, .int .i64 5] 42)).alloc (.cells #[.string ⟨#[97]⟩, .string v] 57)) (some ⟨w.heap.size + 1, 0, none⟩) (psA v) := fun _ => ⟨_, 0, rfl, fun i hi => by
    obtain rfl : i = 0 := by have : i < 1 := hi; omega
    exact ⟨cellG c2, cellG c2⟩⟩
  have HH := Lib.hid (And.intro hP d2)
  clear d1 d2 s1 c2 hP
  go_enter Tryz.func19, Tryz.ntmps19
  go_wp2
  exact bodyPost_ret (v := .agg #[.slice (some ⟨w.heap.size + 1, 0, none⟩) 1 1, .int .i64 1, .int .i64 5]) (by simp [results, Tryz.results19, go_sem]) rfl ⟨rfl, HH.out⟩

theorem one_counts : countsP [108, 56, 58, 108, 49, 58, 97, 49, 58, 49, 101, 105, 49, 101, 101] = (1, 0) := by decide +kernel
theorem one_key : gKeyL 2 (psA ⟨#[49]⟩) = [108, 105, 50, 101, 49, 58, 97, 49, 58, 49, 101] := by decide +kernel
theorem one_rev (a : Option Addr) (c : Nat) : revL [⟨psA ⟨#[49]⟩, 1, 5, a, c⟩] 1 = [108, 56, 58, 108, 49, 58, 97, 49, 58, 49, 101, 105, 49, 101, 101] := by
  have e : revL [⟨psA ⟨#[49]⟩, 1, 5, a, c⟩] 1 = putList ([putText (keyL (psA ⟨#[49]⟩)), putInt 1]) := rfl
  rw [e]
  decide +kernel
theorem psA_light (v : ByteArray) (a : Option Addr) (c : Nat) (hv : v.size ≤ 100) : RwLight ⟨psA v, 1, 5, a, c⟩ := ⟨by simp [psA], fun p hp => by
  have : p = (⟨#[97]⟩, v) := by simpa [psA] using hp
  subst this
  exact ⟨show (1 : Nat) ≤ 100 by omega, hv⟩⟩
theorem psA_sz : ∀ p ∈ psA ⟨#[49]⟩, p.1.size ≤ 1048576 ∧ p.2.size ≤ 1048576 := fun p hp => by
  have : p = (⟨#[97]⟩, ⟨#[49]⟩) := by simpa [psA] using hp
  subst this
  exact ⟨by decide, by decide⟩

theorem field_labels (a : Option Addr) (n c : Nat) (s e : Int) (W : World) : (Instr.field 42 (.agg #[.slice a n c, .int .i64 s, .int .i64 e]) 0).run Tryz.prog W = .ok (.slice a n c) W := by kernel_rfl

set_option maxHeartbeats 2000000 in
set_option maxRecDepth 100000 in
theorem gawake_any (B : Nat) (w : World) (hB : B ≤ w.heap.size) (hv : VarsOk B w) : Calls Tryz.prog 8 #[] w fun e w' => e = .returned (.bool true) ∧ Below w.heap.size w w' := by
  have HC := gCounts_any ⟨#[108, 56, 58, 108, 49, 58, 97, 49, 58, 49, 101, 105, 49, 101, 101]⟩ B w (by decide) hB hv
  have ec : countsP (⟨#[108, 56, 58, 108, 49, 58, 97, 49, 58, 49, 101, 105, 49, 101, 101]⟩ : ByteArray).data.toList = (1, 0) := one_counts
  rw [ec] at HC
  have HCq := Lib.hid HC
  clear ec HC
  go_enter Tryz.func8, Tryz.ntmps8
  go_wp2_with (go_at_call 18; refine HCq.out.mono ?_; rintro e w1 ⟨rfl, hb1⟩; refine Hid.out ?_)
  refine Lib.hid ?_
  have hs1 := hb1.size
  clear HCq
  have HO := Lib.hid (gwOne_any ⟨#[49]⟩ w1)
  go_wp2_with (go_at_call 19; refine HO.out.mono ?_; rintro e w2 ⟨rfl, hp2, hb2⟩; refine Hid.out ?_)
  refine Lib.hid ?_
  have hs2 := hb2.size
  have d2 := hb1.trans (hb2.mono hs1)
  have HK := gKey_any 2 (by omega) (by omega) _ 1 (psA ⟨#[49]⟩) B w2 hp2 (by simp [psA]) psA_sz (by decide +kernel) (by omega) (hv.on (d2.mono hB)) 1 rfl
  rw [one_key] at HK
  have HKq := Lib.hid HK
  have hfd := field_labels (some ⟨w1.heap.size + 1, 0, none⟩) 1 1 1 5
  clear HO hp2 HK
  go_wp2_with (go_at_call 14; refine HKq.out.mono ?_; rintro e w3 ⟨rfl, hb3⟩; refine Hid.out ?_)
  refine Lib.hid ?_
  have hs3 := hb3.size
  have d3 := d2.trans (hb3.mono (by omega))
  clear HKq hfd
  have HO := Lib.hid (gwOne_any ⟨#[49]⟩ w3)
  have hkey : ((⟨[108, 105, 50, 101, 49, 58, 97, 49, 58, 49, 101].toArray⟩ : ByteArray) == ⟨#[108, 105, 50, 101, 49, 58, 97, 49, 58, 49, 101]⟩) = true := by decide
  go_wp2_with (go_at_call 19; refine HO.out.mono ?_; rintro e w4 ⟨rfl, hp4, hb4⟩; refine Hid.out ?_)
  refine Lib.hid ?_
  have hs4 := hb4.size
  have d4 := d3.trans (hb4.mono (by omega))
  have hA : AlsAt (w4.alloc (.cells #[.slice (some ⟨w3.heap.size + 1, 0, none⟩) 1 1, .int .i64 1, .int .i64 5] 42)) (some ⟨w4.heap.size, 0, none⟩) [⟨psA ⟨#[49]⟩, 1, 5, some ⟨w3.heap.size + 1, 0, none⟩, 1⟩] := fun _ => by
    have c2 := heap_alloc_new w4 (.cells #[.slice (some ⟨w3.heap.size + 1, 0, none⟩) 1 1, .int .i64 1, .int .i64 5] 42)
    refine ⟨_, 0, rfl, by simp, fun i hi => ?_⟩
    obtain rfl : i = 0 := by simpa using hi
    exact ⟨cellG c2, cellG c2, cellG c2, hp4.below ((Below.refl _ _).alloc (Nat.le_refl _) _) (Nat.le_refl _)⟩
  have d5 : Below w.heap.size w (w4.alloc (.cells #[.slice (some ⟨w3.heap.size + 1, 0, none⟩) 1 1, .int .i64 1, .int .i64 5] 42)) := d4.alloc (by omega) _
  have HR := gRevision_any _ 1 _ 1 B _ hA (by simp) (fun r hr => by
    obtain rfl : r = _ := by simpa using hr
    exact psA_light _ _ _ (by decide)) (by simp; omega) (hv.on (d5.mono hB)) 1 rfl
  rw [one_rev] at HR
  have HRq := Lib.hid HR
  clear HR
  have hs5 : (w4.alloc (.cells #[.slice (some ⟨w3.heap.size + 1, 0, none⟩) 1 1, .int .i64 1, .int .i64 5] 42)).heap.size = w4.heap.size + 1 := by simp
  have HD := Lib.hid (And.intro d5 hs5)
  clear HO hp4 hA d5 hs5
  go_wp2_with (go_at_call 17; refine HRq.out.mono ?_; rintro e w6 ⟨rfl, hb6⟩; refine Hid.out ?_)
  refine Lib.hid ?_
  have HB := Lib.hid (HD.out.1.trans (hb6.mono (by have := HD.out.2; have := HD.out.1.size; omega)))
  clear HRq HD hb6
  go_wp2
  go_ret
  exact ⟨rfl, HB.out⟩

def pairB (p : Pr) : Bool := decide (p.2.size ≤ 100) && decide (p.1.size ≤ 100)
def rwB (r : Rw) : Bool := decide (r.ps.length ≤ 10) && r.ps.all pairB
/-- Whether alerts are few and small. -/
def lightB (L : List Rw) (most : Int) : Bool := decide ((L.length : Int) ≤ most) && L.all rwB
theorem lightB_yes {L : List Rw} {most : Int} (h : lightB L most = true) : (L.length : Int) ≤ most ∧ ∀ r ∈ L, RwLight r := by
  simp only [lightB, rwB, pairB, Bool.and_eq_true, decide_eq_true_eq, List.all_eq_true] at h
  exact ⟨h.1, fun r hr => ⟨(h.2 r hr).1, fun p hp => ⟨((h.2 r hr).2 p hp).2, ((h.2 r hr).2 p hp).1⟩⟩⟩
theorem all_take {α : Type} (p : α → Bool) (l : List α) (k : Nat) (hk : k < l.length) (h : (l.take k).all p = true) (hp : p l[k] = true) : (l.take (k + 1)).all p = true := by
  rw [List.take_succ_eq_append_getElem hk, List.all_append, h]
  simp [hp]
theorem all_not {α : Type} (p : α → Bool) (l : List α) (k : Nat) (hk : k < l.length) (hp : p l[k] = false) : l.all p = false := by
  rw [List.all_eq_false]
  exact ⟨l[k], List.getElem_mem hk, by rw [hp]; simp⟩

set_option maxHeartbeats 2000000 in
set_option maxRecDepth 100000 in
theorem hLight_any (a : Option Addr) (c : Nat) (L : List Rw) (most : Int) (w : World) (h : AlsAt w a L) (hl : L.length ≤ 9223372036854775807) (hz : ∀ r ∈ L, r.ps.length ≤ 9223372036854775807 ∧ ∀ p ∈ r.ps, p.1.size ≤ 9223372036854775807 ∧ p.2.size ≤ 9223372036854775807) (n : Nat) (hn : n = L.length) :
    Calls Tryz.prog 7 #[.slice a n c, .int .i64 most] w fun e w' => e = .returned (.bool (lightB L most)) ∧ w' = w := by
  by_cases hm : most < (n : Int)
  · have HE : Hid (lightB L most = false) := Lib.hid (by unfold lightB; rw [decide_eq_false (by omega)]; rfl)
    go_enter Tryz.func7, Tryz.ntmps7
    go_wp2
    go_ret
    exact ⟨by rw [HE.out]; rfl, rfl⟩
  · have HY : Hid (L.all rwB = true → lightB L most = true) := Lib.hid fun h => by unfold lightB; rw [decide_eq_true (by omega), h]; rfl
    have HNo : Hid (L.all rwB = false → lightB L most = false) := Lib.hid fun h => by unfold lightB; rw [h, Bool.and_false]
    have HA := Lib.hid h
    have HZ := Lib.hid hz
    have hnL : L.length ≤ n ∧ n ≤ L.length := by omega
    have HN := Lib.hid hn
    clear h hn hz
    generalize lightB L most = R at *
    go_enter Tryz.func7, Tryz.ntmps7
    go_wp2
    go_loop [5] (fun i => ∃ k : Nat, k ≤ n ∧ i = .int .i64 k ∧ Hid ((L.take k).all rwB = true)) (fun i => n - (intOf i).toNat)
    case atStart => exact ⟨0, Nat.zero_le _, rfl, Lib.hid (by simp)⟩
    case round =>
      obtain ⟨k, hk, rfl, HP⟩ := hrel
      by_cases hlt : k < n
      · have hkl : (k : Int) < (n : Int) := by omega
        have hkL : k < L.length := by omega
        obtain ⟨b, o, rfl, hbl, hc⟩ := HA.out (by omega)
        obtain ⟨hc1, -, -, hpa⟩ := hc k hkL
        obtain ⟨hz1, hz2⟩ := HZ.out L[k] (List.getElem_mem _)
        have HST : Hid (rwB L[k] = true → (L.take (k + 1)).all rwB = true) := Lib.hid fun h => all_take _ _ _ hkL HP.out h
        have HSN : Hid (rwB L[k] = false → R = false) := Lib.hid fun h => HNo.out (all_not _ _ _ hkL h)
        have HU : Hid (rwB L[k] = (decide (L[k].ps.length ≤ 10) && L[k].ps.all pairB)) := Lib.hid rfl
        have HPA := Lib.hid (And.intro hpa hz2)
        clear hc hpa hz2 HP
        generalize rwB L[k] = Q at *
        generalize L[k] = r0 at *
        by_cases h10 : 10 < r0.ps.length
        · have h10z : (10 : Int) < (r0.ps.length : Int) := by omega
          have HR := Lib.hid (HSN.out (by rw [HU.out, decide_eq_false (by omega)]; rfl))
          clear HST HSN HU HPA HY HNo
          go_wp2
          go_ret
          exact ⟨by rw [HR.out]; rfl, rfl⟩
        · have h10z : ¬ (10 : Int) < (r0.ps.length : Int) := by omega
          have HU1 : Hid (r0.ps.all pairB = true → (L.take (k + 1)).all rwB = true) := Lib.hid fun h => HST.out (by rw [HU.out, h, decide_eq_true (by omega)]; rfl)
          have HU2 : Hid (r0.ps.all pairB = false → R = false) := Lib.hid fun h => HSN.out (by rw [HU.out, h, Bool.and_false])
          clear HST HSN HU
          go_wp2
          go_loop [6] (fun i => ∃ m : Nat, m ≤ r0.ps.length ∧ i = .int .i64 m ∧ Hid ((r0.ps.take m).all pairB = true)) (fun i => r0.ps.length - (intOf i).toNat)
          case atStart => exact ⟨0, Nat.zero_le _, rfl, Lib.hid (by simp)⟩
          case round =>
            obtain ⟨m, hmk, rfl, HM⟩ := hrel
            by_cases hmt : m < r0.ps.length
            · have hml : (m : Int) < (r0.ps.length : Int) := by omega
              obtain ⟨hpa, hz2⟩ := HPA.out
              obtain ⟨pb, po, hpo, hpc⟩ := hpa (by omega)
              obtain ⟨hp1, hp2⟩ := hpc m hmt
              obtain ⟨hs1, hs2⟩ := hz2 r0.ps[m] (List.getElem_mem _)
              have HV1 : Hid (pairB r0.ps[m] = true → (r0.ps.take (m + 1)).all pairB = true) := Lib.hid fun h => all_take _ _ _ hmt HM.out h
              have HV2 : Hid (pairB r0.ps[m] = false → R = false) := Lib.hid fun h => HU2.out (all_not _ _ _ hmt h)
              have HVU : Hid (pairB r0.ps[m] = (decide (r0.ps[m].2.size ≤ 100) && decide (r0.ps[m].1.size ≤ 100))) := Lib.hid rfl
              rw [hpo] at hc1
              clear hpa hz2 hpc HM HU2 HU1 hpo
              generalize pairB r0.ps[m] = V at *
              generalize r0.ps[m].1 = s1 at *
              generalize r0.ps[m].2 = s2 at *
              by_cases hv : 100 < s2.size
              · have hvz : (100 : Int) < (s2.size : Int) := by omega
                have HR := Lib.hid (HV2.out (by rw [HVU.out, decide_eq_false (by omega)]; rfl))
                clear HV1 HV2 HVU HY HNo HPA
                go_wp2
                go_ret
                exact ⟨by rw [HR.out]; rfl, rfl⟩
              · have hvz : ¬ (100 : Int) < (s2.size : Int) := by omega
                by_cases hw : 100 < s1.size
                · have hwz : (100 : Int) < (s1.size : Int) := by omega
                  have HR := Lib.hid (HV2.out (by rw [HVU.out, decide_eq_true (show s2.size ≤ 100 by omega), decide_eq_false (by omega)]; rfl))
                  clear HV1 HV2 HVU HY HNo HPA
                  go_wp2
                  go_ret
                  exact ⟨by rw [HR.out]; rfl, rfl⟩
                · have hwz : ¬ (100 : Int) < (s1.size : Int) := by omega
                  have HR := Lib.hid (HV1.out (by rw [HVU.out, decide_eq_true (show s2.size ≤ 100 by omega), decide_eq_true (show s1.size ≤ 100 by omega)]; rfl))
                  clear HV1 HV2 HVU HPA
                  go_wp2
                  go_round
                  case rel => exact ⟨m + 1, by omega, by go_num, HR⟩
                  case measure => simp [intOf]; omega
            · obtain rfl : m = r0.ps.length := by omega
              have HR := Lib.hid (HU1.out (by have := HM.out; rwa [List.take_length] at this))
              clear HM HU1 HU2 HPA
              go_wp2
              go_round
              case rel => exact ⟨k + 1, by omega, by go_num, HR⟩
              case measure => simp [intOf]; omega
      · obtain rfl : k = n := by omega
        have HR := Lib.hid (HY.out (by have := HP.out; rwa [List.take_of_length_le (by omega)] at this))
        clear HP HY HNo
        go_wp2
        go_ret
        exact ⟨by rw [HR.out]; rfl, rfl⟩

end Go.Proofs.YtmanjegdgjeeiaaGreatDoor
