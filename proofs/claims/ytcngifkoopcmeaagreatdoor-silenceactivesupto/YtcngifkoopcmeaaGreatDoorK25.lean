/-
  Silences in memory; what Mutes of package silence tells. What Active of package silence tells. The closed case of layer 11; which silences are few.
-/
import Derived.Test.YtcngifkoopcmeaaGreatDoorK21
import Derived.Test.YtcngifkoopcmeaaGreatDoorK24
namespace Go.Proofs.YtcngifkoopcmeaaGreatDoor
open Go Go.RowKit Go.Shelf

/-- A silence, and where its matchers lie. -/
structure Sm where
  s : Sil
  ad : Option Addr
  cp : Nat
abbrev Sm.val (x : Sm) : Value := .agg #[.string x.s.id, .slice x.ad x.s.ms.length x.cp, .int .i64 x.s.st, .int .i64 x.s.en]
def encSm (x : Sm) : List Value := [.string x.s.id, .slice x.ad x.s.ms.length x.cp, .int .i64 x.s.st, .int .i64 x.s.en]
/-- Silences lie at an address; where there are none, anywhere. -/
def SilsAt (w : World) (a : Option Addr) (L : List Sm) : Prop :=
  0 < L.length → ∃ b o, a = some ⟨b, o, none⟩ ∧ b < w.heap.size ∧ ∀ i (hi : i < L.length), (w.cell? ⟨b, o + i * 4, none⟩ = some (.string L[i].s.id) ∧ w.cell? ⟨b, o + i * 4 + 1, none⟩ = some (.slice L[i].ad L[i].s.ms.length L[i].cp) ∧ w.cell? ⟨b, o + i * 4 + 2, none⟩ = some (.int .i64 L[i].s.st) ∧ w.cell? ⟨b, o + i * 4 + 3, none⟩ = some (.int .i64 L[i].s.en)) ∧ MtsAt w L[i].ad L[i].s.ms
theorem SilsAt.below {w w' : World} {a : Option Addr} {L : List Sm} {B : Nat} (h : SilsAt w a L) (hb : Below B w w') (hB : w.heap.size ≤ B) : SilsAt w' a L := fun hn => by
  obtain ⟨b, o, rfl, hbl, hc⟩ := h hn
  refine ⟨b, o, rfl, Nat.lt_of_lt_of_le hbl hb.size, fun i hi => ?_⟩
  obtain ⟨⟨h1, h2, h3, h4⟩, hm⟩ := hc i hi
  have hlt : b < B := Nat.lt_of_lt_of_le hbl hB
  refine ⟨⟨?_, ?_, ?_, ?_⟩, hm.below hb hB⟩
  · rw [hb.cell (p := ⟨b, o + i * 4, none⟩) hlt]; exact h1
  · rw [hb.cell (p := ⟨b, o + i * 4 + 1, none⟩) hlt]; exact h2
  · rw [hb.cell (p := ⟨b, o + i * 4 + 2, none⟩) hlt]; exact h3
  · rw [hb.cell (p := ⟨b, o + i * 4 + 3, none⟩) hlt]; exact h4
theorem SilsAt.nil (w : World) (a : Option Addr) : SilsAt w a [] := fun h => absurd h (Nat.lt_irrefl 0)

def hitSm (l : List Sm) (p : Sm → Bool) (k : Nat) : Prop := k < l.length ∧ (∀ j (hj : j < l.length), j < k → p l[j] = false) ∧ ∀ hk : k < l.length, p l[k] = true
def IdxSm (l : List Sm) (p : Sm → Bool) (w : World) (e : Ending) (w' : World) : Prop := ((∃ k : Nat, e = .returned (.int .i64 k) ∧ hitSm l p k) ∨ (e = .returned (.int .i64 (-1)) ∧ ∀ x ∈ l, p x = false)) ∧ Below w.heap.size w w'

set_option maxRecDepth 100000 in
set_option maxHeartbeats 4000000 in
theorem idxSm_any (a : Option Addr) (c : Nat) (l : List Sm) (p : Sm → Bool) (g : Nat) (lb : Array Value) (eg : ∀ args w, (callFunc g args).run Tryz.prog w = .ok (.enter g args) w) (w : World) (he : SilsAt w a l) (n : Nat) (hn : n = l.length) (hl : n ≤ 9223372036854775807)
    (hp : ∀ W, Below w.heap.size w W → ∀ x ∈ l, Calls Tryz.prog g (#[.agg #[.string x.s.id, .slice x.ad x.s.ms.length x.cp, .int .i64 x.s.st, .int .i64 x.s.en]] ++ lb) W fun e w' => e = .returned (.bool (p x)) ∧ Below W.heap.size W w') :
    Calls Tryz.prog 128 #[.slice a n c, .func (.func g) #[] lb] w (IdxSm l p w) := by
  have HN := Lib.hid hn
  have HE := Lib.hid he
  have HP := Lib.hid hp
  clear hn he hp
  unfold IdxSm
  go_enter Tryz.func128, Tryz.ntmps128
  go_wp2
  go_loopw [8] (fun i wr => ∃ k : Nat, k ≤ n ∧ i = .int .i64 k ∧ Hid (∀ j (hj : j < l.length), j < k → p l[j] = false) ∧ Hid (Below w.heap.size w wr)) (fun i _ => n - (intOf i).toNat)
  case atStart => exact ⟨0, Nat.zero_le _, rfl, Lib.hid (fun j _ h => by omega), Lib.hid (Below.refl _ _)⟩
  case round =>
    obtain ⟨k, hk, rfl, HF, HB⟩ := hrel
    by_cases hlt : k < n
    · have hkl : (k : Int) < (n : Int) := by omega
      have hkx : k < l.length := by have := HN.out; omega
      obtain ⟨b, o, rfl, hb, hc⟩ := (HE.out.below HB.out (Nat.le_refl _)) (Nat.lt_of_le_of_lt (Nat.zero_le _) hkx)
      obtain ⟨⟨c0, c1, c2, c3⟩, -⟩ := hc k hkx
      have HC := Lib.hid (HP.out wr HB.out _ (List.getElem_mem hkx))
      have HS : Hid (p l[k] = false → ∀ j (hj : j < l.length), j < k + 1 → p l[j] = false) := Lib.hid (fun h j hj hjk => by
        by_cases e : j = k
        · subst e; exact h
        · exact HF.out j hj (by omega))
      have HT : Hid (p l[k] = true → hitSm l p k) := Lib.hid (fun h => ⟨hkx, fun j hj hjk => HF.out j hj hjk, fun _ => h⟩)
      clear hc
      generalize p l[k] = q at *
      generalize l[k] = x at *
      obtain ⟨⟨id, ms, st, en⟩, ad, cp⟩ := x
      dsimp only at c0 c1 c2 c3 HC
      generalize ms.length = nm at *
      clear hb hkx HF
      cases q with
      | true =>
        go_wp2_with (go_at_fn g; refine HC.out.mono ?_; rintro e w2 ⟨rfl, q2⟩; refine Hid.out ?_)
        refine Lib.hid ?_
        have HQ := Lib.hid (And.intro (HT.out (by simp)) (HB.out.trans (q2.mono HB.out.size)))
        clear q2 c0 c1 c2 c3 HC HS HT HB
        go_wp2
        go_ret
        exact ⟨.inl ⟨k, rfl, HQ.out.1⟩, HQ.out.2⟩
      | false =>
        go_wp2_with (go_at_fn g; refine HC.out.mono ?_; rintro e w2 ⟨rfl, q2⟩; refine Hid.out ?_)
        refine Lib.hid ?_
        have HQ := Lib.hid (HB.out.trans (q2.mono HB.out.size))
        have HS2 := Lib.hid (HS.out (by simp))
        clear q2 c0 c1 c2 c3 HC HS HT HB
        go_wp2
        go_roundw
        case rel => exact ⟨k + 1, by omega, by go_num, HS2, HQ⟩
        case measure => simp [intOf]; omega
    · have hkl : ¬ (k : Int) < (n : Int) := by omega
      have HQ : Hid ((∀ x ∈ l, p x = false) ∧ Below w.heap.size w wr) := Lib.hid ⟨fun x hx => by
        obtain ⟨j, hj, rfl⟩ := List.getElem_of_mem hx
        exact HF.out j hj (by have := HN.out; omega), HB.out⟩
      clear HF HB
      go_wp2
      go_ret
      exact ⟨.inr ⟨rfl, HQ.out.1⟩, HQ.out.2⟩
theorem hitSm_or (l : List Sm) (p : Sm → Bool) : (l.any p = true ∧ ∃ k, hitSm l p k) ∨ (l.any p = false ∧ ∀ x ∈ l, p x = false) := by
  induction l with
  | nil => right; exact ⟨rfl, fun x hx => by cases hx⟩
  | cons x l ih =>
    cases hx : p x with
    | true => exact .inl ⟨by simp [hx], 0, by simp, fun j hj h => absurd h (Nat.not_lt_zero _), fun _ => hx⟩
    | false =>
      rcases ih with ⟨h0, k, h1, h2, h3⟩ | ⟨h0, h⟩
      · refine .inl ⟨by simp [hx, h0], k + 1, by simpa using h1, fun j hj hjk => ?_, fun hk => h3 h1⟩
        cases j with
        | zero => exact hx
        | succ j => exact h2 j (by simpa using hj) (by omega)
      · refine .inr ⟨by simp [hx, h0], fun y hy => ?_⟩
        rcases List.mem_cons.1 hy with rfl | hy
        · exact hx
        · exact h y hy
set_option maxRecDepth 20000 in
set_option maxHeartbeats 1000000 in
theorem hasSm_any (a : Option Addr) (c : Nat) (l : List Sm) (p : Sm → Bool) (g : Nat) (lb : Array Value) (eg : ∀ args w, (callFunc g args).run Tryz.prog w = .ok (.enter g args) w) (w : World) (he : SilsAt w a l) (n : Nat) (hn : n = l.length) (hl : n ≤ 9223372036854775807)
    (hp : ∀ W, Below w.heap.size w W → ∀ x ∈ l, Calls Tryz.prog g (#[.agg #[.string x.s.id, .slice x.ad x.s.ms.length x.cp, .int .i64 x.s.st, .int .i64 x.s.en]] ++ lb) W fun e w' => e = .returned (.bool (p x)) ∧ Below W.heap.size W w') :
    Calls Tryz.prog 82 #[.slice a n c, .func (.func g) #[] lb] w fun e w' => e = .returned (.bool (l.any p)) ∧ Below w.heap.size w w' := by
  have hI := idxSm_any a c l p g lb eg w he n hn hl hp
  rcases hitSm_or l p with ⟨h0, k, hk⟩ | ⟨h0, hall⟩
  · have HI : Hid (∃ k' : Nat, Calls Tryz.prog 128 #[.slice a n c, .func (.func g) #[] lb] w fun e w' => e = .returned (.int .i64 k') ∧ Below w.heap.size w w') := Lib.hid ⟨k, hI.mono fun e w' ⟨hor, q⟩ => ⟨by
      rcases hor with ⟨k', rfl, hk'⟩ | ⟨-, hno⟩
      · rcases Nat.lt_trichotomy k k' with e | e | e
        · have := hk'.2.1 k hk.1 e
          rw [hk.2.2 hk.1] at this
          exact Bool.noConfusion this
        · rw [e]
        · have := hk.2.1 k' hk'.1 e
          rw [hk'.2.2 hk'.1] at this
          exact Bool.noConfusion this
      · have := hno _ (List.getElem_mem hk.1)
        rw [hk.2.2 hk.1] at this
        exact Bool.noConfusion this, q⟩⟩
    rw [h0]
    clear hI h0 hk hp he hn hl
    obtain ⟨k, hk⟩ := HI.out
    have HC := Lib.hid hk
    clear hk HI
    go_enter Tryz.func82, Tryz.ntmps82
    go_wp2_with (go_at_call 128; refine HC.out.mono ?_; rintro e w2 ⟨rfl, q2⟩)
    go_ret
    exact ⟨by simp, q2⟩
  · have HI : Hid (Calls Tryz.prog 128 #[.slice a n c, .func (.func g) #[] lb] w fun e w' => e = .returned (.int .i64 (-1)) ∧ Below w.heap.size w w') := Lib.hid (hI.mono fun e w' ⟨hor, q⟩ => ⟨by
      rcases hor with ⟨k', rfl, hk'⟩ | ⟨rfl, -⟩
      · have := hall _ (List.getElem_mem hk'.1)
        rw [hk'.2.2 hk'.1] at this
        exact Bool.noConfusion this
      · rfl, q⟩)
    rw [h0]
    clear hI h0 hall hp he hn hl
    go_enter Tryz.func82, Tryz.ntmps82
    go_wp2_with (go_at_call 128; refine HI.out.mono ?_; rintro e w2 ⟨rfl, q2⟩)
    go_ret
    exact ⟨by simp, q2⟩

/-- A silence asks labels: all its matchers do. -/
def silAsk (ps : List Pr) (s : Sil) : Prop := ∀ m ∈ s.ms, mAsk ps m

set_option maxHeartbeats 1000000 in
theorem sMutes1_any (x : Sm) (b : Option Addr) (d : Nat) (ps : List Pr) (p : Bool) (hp : p = true ↔ silAsk ps x.s) (Bx : Nat) (w : World) (htab : TabW w) (hm : MtsAt w x.ad x.s.ms) (hml : x.s.ms.length ≤ 9223372036854775807) (h : PairsAt w b ps) (hn : ps.length ≤ 9223372036854775807) (hv : ∀ q ∈ ps, q.2.size ≤ 9223372036854775807) (hB : w.cell? ⟨Bx, 0, none⟩ = some (.slice b ps.length d)) :
    Calls Tryz.prog 83 #[.agg #[.string x.s.id, .slice x.ad x.s.ms.length x.cp, .int .i64 x.s.st, .int .i64 x.s.en], .pointer (some ⟨Bx, 0, none⟩)] w fun e w' => e = .returned (.bool p) ∧ Below w.heap.size w w' := by
  have hlt := World.block_lt_of_cell? w _ hB
  have d1 := (Below.refl w.heap.size w).alloc (Nat.le_refl _) (.cells #[.string x.s.id, .slice x.ad x.s.ms.length x.cp, .int .i64 x.s.st, .int .i64 x.s.en] 55)
  have c1 := (d1.cell (p := ⟨Bx, 0, none⟩) hlt).trans hB
  have hA := mAll_any x.ad x.cp x.s.ms b d ps _ (htab.on d1 htab.lt) (hm.below d1 (Nat.le_refl _)) hml (h.below d1 (Nat.le_refl _)) hn hv _ rfl
  have HA : Hid (Calls Tryz.prog 60 #[.slice x.ad x.s.ms.length x.cp, .slice b ps.length d] (w.alloc (.cells #[.string x.s.id, .slice x.ad x.s.ms.length x.cp, .int .i64 x.s.st, .int .i64 x.s.en] 55)) fun e w' => e = .returned (.bool p) ∧ Below (w.alloc (.cells #[.string x.s.id, .slice x.ad x.s.ms.length x.cp, .int .i64 x.s.st, .int .i64 x.s.en] 55)).heap.size (w.alloc (.cells #[.string x.s.id, .slice x.ad x.s.ms.length x.cp, .int .i64 x.s.st, .int .i64 x.s.en] 55)) w') := Lib.hid (hA.mono fun e w' ⟨⟨q, he, hq⟩, hb⟩ => ⟨by
    rw [he]
    have : q = p := by
      have hpq : q = true ↔ p = true := hq.trans hp.symm
      cases q <;> cases p <;> simp at hpq ⊢
    rw [this], hb⟩)
  have HD := Lib.hid d1
  clear hA hm hml h hn hv hp htab d1 hB hlt
  obtain ⟨⟨id, ms, st, en⟩, ad, cp⟩ := x
  dsimp only at *
  generalize ms.length = nm at *
  generalize ps.length = np at *
  go_enter Tryz.func83, Tryz.ntmps83
  go_wp2_with (go_at_call 60; refine HA.out.mono ?_; rintro e w2 ⟨rfl, q2⟩)
  go_ret
  exact ⟨rfl, HD.out.trans (q2.mono HD.out.size)⟩

set_option maxHeartbeats 1000000 in
theorem sMutes_any (a : Option Addr) (c : Nat) (L : List Sm) (b : Option Addr) (d : Nat) (ps : List Pr) (p : Sm → Bool) (hp : ∀ x, p x = true ↔ silAsk ps x.s) (w : World) (htab : TabW w) (hs : SilsAt w a L) (hml : ∀ x ∈ L, x.s.ms.length ≤ 9223372036854775807) (h : PairsAt w b ps) (hn : ps.length ≤ 9223372036854775807) (hv : ∀ q ∈ ps, q.2.size ≤ 9223372036854775807) (n : Nat) (hnl : n = L.length) (hl : n ≤ 9223372036854775807) (m : Nat) (hm : m = ps.length) :
    Calls Tryz.prog 35 #[.slice a n c, .slice b m d] w fun e w' => e = .returned (.bool (L.any p)) ∧ Below w.heap.size w w' := by
  subst hm
  have d1 := (Below.refl w.heap.size w).alloc (Nat.le_refl _) (.cells #[.slice b ps.length d] 40)
  have eg : ∀ args w, (callFunc 83 args).run Tryz.prog w = .ok (.enter 83 args) w := enters_of Tryz.func83 (by kernel_rfl) rfl
  have hb0 : (w.alloc (.cells #[.slice b ps.length d] 40)).cell? ⟨w.heap.size, 0, none⟩ = some (.slice b ps.length d) := cell_heap (heap_new w _)
  have hH := hasSm_any a c L p 83 #[.pointer (some ⟨w.heap.size, 0, none⟩)] eg _ (hs.below d1 (Nat.le_refl _)) n hnl hl (fun W hW x hx => by
    have dW := d1.trans (hW.mono d1.size)
    obtain ⟨k, hk, rfl⟩ := List.getElem_of_mem hx
    obtain ⟨bb, oo, rfl, hbb, hcc⟩ := hs (Nat.lt_of_le_of_lt (Nat.zero_le _) hk)
    exact sMutes1_any L[k] b d ps (p L[k]) (hp _) w.heap.size W (htab.on dW htab.lt) ((hcc k hk).2.below dW (Nat.le_refl _)) (hml _ hx) (h.below dW (Nat.le_refl _)) hn hv ((hW.cell (p := ⟨w.heap.size, 0, none⟩) (by simp)).trans hb0))
  have HH := Lib.hid hH
  have HD := Lib.hid d1
  clear hH hs hml h hn hv hp htab d1 hb0 hnl hl
  generalize L.any p = q at *
  generalize ps.length = np at *
  go_enter Tryz.func35, Tryz.ntmps35
  go_wp2_with (go_at_call 82; refine HH.out.mono ?_; rintro e w2 ⟨rfl, q2⟩)
  go_ret
  exact ⟨rfl, HD.out.trans (q2.mono HD.out.size)⟩


/-- The silence of an entry, if there is one. -/
def ofS (x : Ent) : Option Sil := if hasK x.k = true ∧ entryE (tellS x (cutK x.k)) x.t = 0 ∧ eqEn (entS (tellS x (cutK x.k)) x.t x.o) x = true then some (tellS x (cutK x.k)) else none
theorem ofS_some {x : Ent} {s : Sil} : ofS x = some s ↔ IsE s x := by
  unfold ofS
  constructor
  · intro h
    split at h
    · rename_i h1
      obtain rfl := Option.some.inj h
      exact ⟨h1.2.1, (eqEn_iff _ _).1 h1.2.2⟩
    · cases h
  · intro h
    obtain ⟨hk, ht⟩ := h.tell
    have e := hasK_key s.id
    rw [← hk] at e
    rw [e.2, ht, if_pos ⟨e.1, h.1, (eqEn_iff _ _).2 h.2⟩]
theorem ofS_none {x : Ent} (h : ofS x = none) (s : Sil) : ¬ IsE s x := fun hs => by rw [ofS_some.2 hs] at h; cases h
/-- The silence of an entry that is active. -/
def actOf (now : Int) (x : Ent) : Option Sil := (ofS x).bind fun s => if s.st ≤ now ∧ now < s.en then some s else none
def activeL (l : List Ent) (now : Int) : List Sil := l.filterMap (actOf now)
theorem activeL_next (l : List Ent) (now : Int) (k : Nat) (hk : k < l.length) : activeL (l.take (k + 1)) now = activeL (l.take k) now ++ (actOf now l[k]).toList := by
  unfold activeL
  rw [List.take_succ_eq_append_getElem hk, List.filterMap_append]
  congr 1
theorem activeL_len (l : List Ent) (now : Int) : (activeL l now).length ≤ l.length := List.length_filterMap_le _ _

def cellsSm (M : List Sm) : List Value := M.flatMap encSm
theorem cellsSm_len : ∀ L : List Sm, (cellsSm L).length = L.length * 4
  | [] => rfl
  | p :: r => by
    have := cellsSm_len r
    simp only [cellsSm, List.flatMap_cons, List.length_append, List.length_cons] at *
    rw [this]
    simp [encSm]
    omega
theorem cellsSm_append (L M : List Sm) : cellsSm (L ++ M) = cellsSm L ++ cellsSm M := List.flatMap_append
theorem cellsSm_get : ∀ (L : List Sm) (i : Nat) (hi : i < L.length) (j : Nat) (v : Value), (encSm L[i])[j]? = some v → (cellsSm L)[i * 4 + j]? = some v
  | p :: r, 0, _, j, v, hv => by
    have e : cellsSm (p :: r) = encSm p ++ cellsSm r := rfl
    have hv' : (encSm p)[j]? = some v := hv
    have hj := (List.getElem?_eq_some_iff.1 hv').1
    rw [e, Nat.zero_mul, Nat.zero_add, List.getElem?_append_left hj]
    exact hv'
  | p :: r, i + 1, hi, j, v, hv => by
    have := cellsSm_get r i (by simpa using hi) j v hv
    have e : cellsSm (p :: r) = encSm p ++ cellsSm r := rfl
    have l : (encSm p).length = 4 := rfl
    rw [e, List.getElem?_append_right (by omega), l, show (i + 1) * 4 + j - 4 = i * 4 + j by omega]
    exact this
theorem infoSm : (Tryz.prog.info? 55).map (fun i => (i.zero, i.size, i.bytes)) = some (some (.agg #[.string ⟨#[]⟩, .slice none 0 0, .int .i64 0, .int .i64 0]), 4, 56) := by kernel_rfl
/-- Silences in a row of the call's own, whose matchers lie elsewhere. -/
structure RowS (w : World) (B : Nat) (v : Value) (M : List Sm) : Prop where
  own : w.ownsRow B 55 4 v M.length (cellsSm M)
  src : ∀ j (hj : j < M.length), MtsAt w M[j].ad M[j].s.ms
  apart : ∀ j (hj : j < M.length) q, M[j].ad = some q → some q.block ≠ v.ownBlock ∧ q.block < w.heap.size
theorem RowS.nil (w : World) (B : Nat) : RowS w B (.slice none 0 0) [] := ⟨World.ownsRow_nil _ _ _ _, fun _ hj => absurd hj (Nat.not_lt_zero _), fun _ hj => absurd hj (Nat.not_lt_zero _)⟩
theorem RowS.on {w w' : World} {B : Nat} {v : Value} {M : List Sm} (h : RowS w B v M) (hb : Below w.heap.size w w') : RowS w' B v M :=
  ⟨World.ownsRow.kept h.own (grownBy_of_below (r := none) hb) (by cases hv : v.ownBlock <;> simp), fun j hj => (h.src j hj).below hb (Nat.le_refl _), fun j hj q e => ⟨(h.apart j hj q e).1, Nat.lt_of_lt_of_le (h.apart j hj q e).2 hb.size⟩⟩
theorem RowS.at {w : World} {B : Nat} {a : Option Addr} {n c : Nat} {M : List Sm} (h : RowS w B (.slice a n c) M) : n = M.length ∧ SilsAt w a M := by
  rcases h.own.2 with ⟨e, h0⟩ | ⟨g, cap, cur, e, hg0, hg1, hcap, hmax, hcs, htk⟩
  · simp only [Value.slice.injEq] at e
    exact ⟨by omega, fun hn => by omega⟩
  · simp only [Value.slice.injEq] at e
    obtain ⟨rfl, rfl, rfl⟩ := e
    refine ⟨rfl, fun hn => ⟨g, 0, rfl, ltE hg1, fun i hi => ?_⟩⟩
    have hc : ∀ j v, (encSm M[i])[j]? = some v → w.cell? ⟨g, 0 + i * 4 + j, none⟩ = some v := fun j v hv => by
      have hj := (List.getElem?_eq_some_iff.1 hv).1
      have l4 : (encSm M[i]).length = 4 := rfl
      rw [Nat.zero_add, World.ownsRow.cellAt h.own _ (by omega)]
      exact cellsSm_get M i hi j v hv
    exact ⟨⟨hc 0 _ rfl, hc 1 _ rfl, hc 2 _ rfl, hc 3 _ rfl⟩, h.src i hi⟩
theorem MtsAt.past {w w' : World} {a : Option Addr} {ms : List Mt} {r : Option Nat} (h : MtsAt w a ms) (g : w.grownBy w' r) (hne : ∀ q, a = some q → some q.block ≠ r) : MtsAt w' a ms := fun hn => by
  obtain ⟨b, o, rfl, hb, hc⟩ := h hn
  have h1 := hne _ rfl
  refine ⟨b, o, rfl, Nat.lt_of_lt_of_le hb g.size, fun i hi => ?_⟩
  obtain ⟨k1, k2, k3⟩ := hc i hi
  exact ⟨g.cell k1 h1, g.cell k2 h1, g.cell k3 h1⟩
/-- One silence more. -/
theorem RowS.step {w w1 w2 : World} {B : Nat} {v v' : Value} {M : List Sm} {x : Sm} {o : Obj} (h : RowS w B v M) (hb : Below w.heap.size w w1) (hx : MtsAt w1 x.ad x.s.ms) (hq : ∀ q, x.ad = some q → w.heap.size ≤ q.block ∧ q.block < w1.heap.size)
    (hown : w2.ownsRow B 55 4 v' (M.length + 1) (cellsSm M ++ encSm x)) (hg : (w1.alloc o).grownBy w2 v.ownBlock) (hat : v'.ownBlock = v.ownBlock ∨ v'.ownBlock = some (w1.heap.size + 1)) : RowS w2 B v' (M ++ [x]) := by
  have hb1 : Below w1.heap.size w1 (w1.alloc o) := (Below.refl _ _).alloc (Nat.le_refl _) _
  have h1 := (h.on hb).on hb1
  have hvlt : ∀ k, v.ownBlock = some k → k < w.heap.size := fun k hk => (World.ownsRow.lt h.own k hk).2
  have hs := hg.size
  simp only [World.size_alloc] at hs
  have hs1 := hb.size
  refine ⟨by rw [cellsSm_append, List.length_append]; simpa [cellsSm] using hown, fun j hj => ?_, fun j hj q e => ?_⟩
  · by_cases hj1 : j < M.length
    · simp only [List.getElem_append_left hj1]
      exact (h1.src j hj1).past hg (fun q e => (h1.apart j hj1 q e).1)
    · have hj2 : j = M.length := by simp at hj; omega
      subst hj2
      simp only [List.getElem_append_right (Nat.le_refl _), Nat.sub_self, List.getElem_singleton]
      refine (hx.below hb1 (Nat.le_refl _)).past hg (fun q e e2 => ?_)
      have h2 := hq q e
      have h3 := hvlt q.block e2.symm
      omega
  · by_cases hj1 : j < M.length
    · rw [List.getElem_append_left hj1] at e
      have h2 := h.apart j hj1 q e
      refine ⟨?_, by omega⟩
      rcases hat with hat | hat
      · rw [hat]; exact h2.1
      · rw [hat]
        intro e2
        simp only [Option.some.injEq] at e2
        omega
    · have hj2 : j = M.length := by simp at hj; omega
      subst hj2
      simp only [List.getElem_append_right (Nat.le_refl _), Nat.sub_self, List.getElem_singleton] at e
      have h2 := hq q e
      refine ⟨?_, by omega⟩
      rcases hat with hat | hat
      · rw [hat]; intro e2; have h3 := hvlt q.block e2.symm; omega
      · rw [hat]; intro e2; simp only [Option.some.injEq] at e2; omega

theorem EntsAt.five {w : World} {a : Option Addr} {l : List Ent} (h : EntsAt w a l) (k : Nat) (hk : k < l.length) : ∃ b o, a = some ⟨b, o, none⟩ ∧ b < w.heap.size ∧ w.cell? ⟨b, o + k * 5, none⟩ = some (.string l[k].k) ∧ w.cell? ⟨b, o + k * 5 + 1, none⟩ = some (.int .i64 l[k].t) ∧ w.cell? ⟨b, o + k * 5 + 2, none⟩ = some (.int .u16 l[k].o) ∧ w.cell? ⟨b, o + k * 5 + 3, none⟩ = some (.string l[k].v) ∧ w.cell? ⟨b, o + k * 5 + 4, none⟩ = some (.int .i64 l[k].u) := by
  obtain ⟨b, o, rfl, hb, hc⟩ := h (Nat.lt_of_le_of_lt (Nat.zero_le _) hk)
  exact ⟨b, o, rfl, hb, hc k hk 0 _ rfl, hc k hk 1 _ rfl, hc k hk 2 _ rfl, hc k hk 3 _ rfl, hc k hk 4 _ rfl⟩
theorem EntsAt.onS {w w' : World} {a : Option Addr} {l : List Ent} {B : Nat} (h : EntsAt w a l) (hb : Below B w w') (hB : w.heap.size ≤ B) : EntsAt w' a l := fun hn => by
  obtain ⟨b, o, rfl, hbl, hc⟩ := h hn
  exact ⟨b, o, rfl, Nat.lt_of_lt_of_le hbl hb.size, fun i hi j v hv => by rw [hb.cell (p := ⟨b, o + i * 5 + j, none⟩) (Nat.lt_of_lt_of_le hbl hB)]; exact hc i hi j v hv⟩

/-- What Active leaves. -/
def ActPost (w : World) (l : List Ent) (now : Int) (e : Ending) (w' : World) : Prop := ∃ a' n' c' M, e = .returned (.slice a' n' c') ∧ RowS w' w.heap.size (.slice a' n' c') M ∧ M.map Sm.s = activeL l now ∧ Below w.heap.size w w'

set_option maxRecDepth 100000 in
set_option maxHeartbeats 4000000 in
theorem sActive_any (a : Option Addr) (c : Nat) (l : List Ent) (now : Int) (B : Nat) (w : World) (hB : B ≤ w.heap.size) (hv : VarsOk B w) (htab : TabW w) (he : EntsAt w a l) (hsz : ∀ x ∈ l, x.v.size ≤ 1048576) (n : Nat) (hn : n = l.length) (hl : n ≤ 1048576) :
    Calls Tryz.prog 33 #[.slice a n c, .int .i64 now] w (ActPost w l now) := by
  obtain ⟨i0, hi, hz0, hz1, hz2⟩ := info_parts infoSm
  have HN := Lib.hid hn
  have HX := Lib.hid (And.intro hB (And.intro hv (And.intro htab (And.intro he hsz))))
  clear hn hB hv htab he hsz
  go_enter Tryz.func33, Tryz.ntmps33
  go_wp2
  go_loopw [5, 12] (fun va i wr => ∃ (k : Nat) (a7 : Option Addr) (n7 c7 : Nat) (M : List Sm), k ≤ n ∧ i = .int .i64 k ∧ va = .slice a7 n7 c7 ∧ Hid (RowS wr w.heap.size (.slice a7 n7 c7) M ∧ M.map Sm.s = activeL (l.take k) now ∧ Below w.heap.size w wr)) (fun _ i _ => n - (intOf i).toNat)
  case atStart => exact ⟨0, none, 0, 0, [], Nat.zero_le _, rfl, rfl, Lib.hid ⟨RowS.nil _ _, by simp [activeL], Below.refl _ _⟩⟩
  case round =>
    obtain ⟨k, a7, n7, c7, M, hk, rfl, rfl, HR⟩ := hrel
    by_cases hlt : k < n
    · have hkl : (k : Int) < (n : Int) := by omega
      have HLT := Lib.hid hlt
      have hkx : k < l.length := by have := HN.out; omega
      obtain ⟨b, o, rfl, hb, c0, c1, c2, c3, c4⟩ := (HX.out.2.2.2.1.onS HR.out.2.2 (Nat.le_refl _)).five k hkx
      have HNx := Lib.hid (activeL_next l now k hkx)
      have HSz := Lib.hid (HX.out.2.2.2.2 _ (List.getElem_mem hkx))
      generalize l[k] = x at *
      have d1 := (Below.refl wr.heap.size wr).alloc (Nat.le_refl _) (.cells #[.string x.k, .int .i64 x.t, .int .u16 x.o, .string x.v, .int .i64 x.u] 60)
      have D1 := HR.out.2.2.trans (d1.mono HR.out.2.2.size)
      have hB1 := Nat.le_trans HX.out.1 D1.size
      have hv1 := HX.out.2.1.on (D1.mono HX.out.1)
      have ht1 := HX.out.2.2.1.on D1 HX.out.2.2.1.lt
      have HD1 := Lib.hid (And.intro d1 D1)
      cases ho : ofS x with
      | none =>
        have HC := Lib.hid (sOf_no x HSz.out B _ hB1 hv1 ht1 (ofS_none ho))
        have hact : actOf now x = none := by unfold actOf; rw [ho]; rfl
        rw [hact] at HNx
        clear ho hact d1 D1 hB1 hv1 ht1 hkx hb HSz
        obtain ⟨kx, tx, ox, vx, ux⟩ := x
        dsimp only at *
        go_wp2_with (go_at_call 27; refine HC.out.mono ?_; rintro e w2 ⟨rfl, q2⟩; refine Hid.out ?_)
        refine Lib.hid ?_
        have d3 := HD1.out.1.trans (q2.mono HD1.out.1.size)
        have e3 := (Below.refl w2.heap.size w2).alloc (Nat.le_refl _) (.cells #[.string ⟨#[]⟩, .slice none 0 0, .int .i64 0, .int .i64 0] 55)
        have d4 := d3.trans (e3.mono d3.size)
        have HF := Lib.hid (And.intro (HR.out.1.on d4) (HR.out.2.2.trans (d4.mono HR.out.2.2.size)))
        clear d3 e3 d4 q2 c0 c1 c2 c3 c4 HC HD1
        go_wp2
        go_roundw
        case rel => exact ⟨k + 1, _, _, _, M, by have := HLT.out; omega, by go_num, rfl, Lib.hid ⟨HF.out.1, by rw [HNx.out, HR.out.2.1]; simp, HF.out.2⟩⟩
        case measure => have := HLT.out; simp [intOf]; omega
      | some s =>
        have hs := ofS_some.1 ho
        have HC := Lib.hid (sOf_yes x HSz.out B _ hB1 hv1 ht1 s hs)
        have hpos : 0 < s.ms.length := (silE_zero (entryE_zero hs.1).1).2.2.1
        have HPos := Lib.hid hpos
        have hnl : M.length ≤ k := by
          have h1 := congrArg List.length HR.out.2.1
          rw [List.length_map] at h1
          have h2 := activeL_len (l.take k) now
          rw [List.length_take] at h2
          omega
        have HML := Lib.hid hnl
        by_cases hin : s.st ≤ now ∧ now < s.en
        · have hact : actOf now x = some s := by unfold actOf; rw [ho]; simp [hin]
          rw [hact] at HNx
          clear ho hs hact d1 D1 hB1 hv1 ht1 hkx hb HSz hpos hnl
          obtain ⟨id, ms, st, en⟩ := s
          obtain ⟨kx, tx, ox, vx, ux⟩ := x
          dsimp only at *
          obtain ⟨nm, hnm⟩ : ∃ nm, nm = ms.length := ⟨_, rfl⟩
          rw [← hnm] at HC
          have HNM := Lib.hid hnm
          clear hnm
          obtain ⟨hi1, hi2⟩ := hin
          go_wp2_with (go_at_call 27; refine HC.out.mono ?_; rintro e w2 ⟨as2, cs2, rfl, hm, hlw, q2⟩; have HMw := Lib.hid (And.intro hm (And.intro hlw q2)); clear hm hlw q2; refine Hid.out ?_)
          refine Lib.hid ?_
          obtain ⟨hm, hlw, q2⟩ := HMw.out
          have d3 := HD1.out.1.trans (q2.mono HD1.out.1.size)
          have e3 := (Below.refl w2.heap.size w2).alloc (Nat.le_refl _) (.cells #[.string id, .slice as2 nm cs2, .int .i64 st, .int .i64 en] 55)
          have d4 := d3.trans (e3.mono d3.size)
          have e5 := (Below.refl (w2.alloc (.cells #[.string id, .slice as2 nm cs2, .int .i64 st, .int .i64 en] 55)).heap.size (w2.alloc (.cells #[.string id, .slice as2 nm cs2, .int .i64 st, .int .i64 en] 55))).alloc (Nat.le_refl _) (.cells #[.string id, .slice as2 nm cs2, .int .i64 st, .int .i64 en] 55)
          have hown := ((HR.out.1.on d4).on e5).own
          have hmx := hm.below e3 (Nat.le_refl _)
          have hq : ∀ q, as2 = some q → wr.heap.size ≤ q.block ∧ q.block < (w2.alloc (.cells #[.string id, .slice as2 nm cs2, .int .i64 st, .int .i64 en] 55)).heap.size := fun q hq => by
            have h1 := hlw q hq
            obtain ⟨b9, o9, e9, h9, -⟩ := hmx HPos.out
            rw [hq] at e9
            obtain rfl := Option.some.inj e9
            simp only [World.size_alloc] at h1
            exact ⟨Nat.le_trans (Nat.le_succ _) h1, h9⟩
          have hz : w.heap.size ≤ ((w2.alloc (.cells #[.string id, .slice as2 nm cs2, .int .i64 st, .int .i64 en] 55)).alloc (.cells #[.string id, .slice as2 nm cs2, .int .i64 st, .int .i64 en] 55)).heap.size := by
            have h1 := HR.out.2.2.size
            have h2 := d4.size
            simp only [World.size_alloc] at h2 ⊢
            omega
          have hnew : ((w2.alloc (.cells #[.string id, .slice as2 nm cs2, .int .i64 st, .int .i64 en] 55)).alloc (.cells #[.string id, .slice as2 nm cs2, .int .i64 st, .int .i64 en] 55)).heap[w2.heap.size + 1]? = some (.cells #[.string id, .slice as2 nm cs2, .int .i64 st, .int .i64 en] 55) := by
            have := newE (w2.alloc (.cells #[.string id, .slice as2 nm cs2, .int .i64 st, .int .i64 en] 55)) (.cells #[.string id, .slice as2 nm cs2, .int .i64 st, .int .i64 en] 55)
            rwa [World.size_alloc] at this
          have hbd : M.length + 1 ≤ 1048577 := by have := HML.out; have := HLT.out; omega
          have HF := Lib.hid (And.intro d4 (And.intro e5 (And.intro hmx hq)))
          clear d3 e3 d4 e5 hmx hq hm hlw q2 HC HD1 c0 c1 c2 c3 c4 HMw
          go_wp2_with (at_builtin; refine Hid.out ?_)
          refine Lib.hid ?_
          refine wpList_append_own_at _ rfl _ _ 58 rfl w.heap.size 55 i0 (.agg #[.string ⟨#[]⟩, .slice none 0 0, .int .i64 0, .int .i64 0]) 4 56 Tryz.underlying58 hi hz0 hz1 hz2 rfl (by decide) _ _ _ rfl hown ⟨w2.heap.size + 1, 0, none⟩ 1 1 [.string id, .slice as2 nm cs2, .int .i64 st, .int .i64 en] rfl rfl (World.news_of_block (cs := #[.string id, .slice as2 nm cs2, .int .i64 st, .int .i64 en]) hnew) (by intro u' hu'; simp at hu'; rcases hu' with rfl | rfl | rfl | rfl <;> rfl) (by unfold maxLen; omega) (by omega) hz ?_
          intro v' w6 hown6 hg6 _ hat6
          obtain ⟨d4, e5, hmx, hq⟩ := HF.out
          have hrow6 := HR.out.1.step (x := ⟨⟨id, ms, st, en⟩, as2, cs2⟩) d4 hmx hq (by have := hown6; rw [HNM.out] at this; exact this) hg6 (hat6.imp (fun h => h) (fun e => by rw [e]; simp))
          have D6 : Below w.heap.size w w6 := (HR.out.2.2.trans ((d4.trans (e5.mono d4.size)).mono HR.out.2.2.size)).grown hg6 hz (fun j hj => (World.ownsRow.lt HR.out.1.own j hj).1)
          obtain ⟨g', cap', rfl⟩ := ownsRow_succ hown6
          have HG := Lib.hid (And.intro hrow6 D6)
          clear hrow6 D6 hown6 hg6 hat6 d4 e5 hmx hq HF hown hnew hz hbd
          go_wp2
          go_roundw
          case rel => exact ⟨k + 1, _, _, _, M ++ [⟨⟨id, ms, st, en⟩, as2, cs2⟩], by have := HLT.out; omega, by go_num, rfl, Lib.hid ⟨HG.out.1, by rw [HNx.out, List.map_append, HR.out.2.1]; rfl, HG.out.2⟩⟩
          case measure => have := HLT.out; simp [intOf]; omega
        · have hact : actOf now x = none := by unfold actOf; rw [ho]; simp [hin]
          rw [hact] at HNx
          clear ho hs hact d1 D1 hB1 hv1 ht1 hkx hb HSz hpos hnl
          obtain ⟨id, ms, st, en⟩ := s
          obtain ⟨kx, tx, ox, vx, ux⟩ := x
          dsimp only at *
          obtain ⟨nm, hnm⟩ : ∃ nm, nm = ms.length := ⟨_, rfl⟩
          rw [← hnm] at HC
          clear hnm
          have HIN := Lib.hid hin
          clear hin
          go_wp2_with (go_at_call 27; refine HC.out.mono ?_; rintro e w2 ⟨as2, cs2, rfl, -, -, q2⟩; have HMw := Lib.hid q2; clear q2; refine Hid.out ?_)
          refine Lib.hid ?_
          have d3 := HD1.out.1.trans (HMw.out.mono HD1.out.1.size)
          have e3 := (Below.refl w2.heap.size w2).alloc (Nat.le_refl _) (.cells #[.string id, .slice as2 nm cs2, .int .i64 st, .int .i64 en] 55)
          have d4 := d3.trans (e3.mono d3.size)
          have HF := Lib.hid (And.intro (HR.out.1.on d4) (HR.out.2.2.trans (d4.mono HR.out.2.2.size)))
          clear d3 e3 d4 c0 c1 c2 c3 c4 HC HD1 HMw
          by_cases h1 : st ≤ now
          · have h2 : ¬ now < en := fun h => HIN.out ⟨h1, h⟩
            go_wp2
            go_roundw
            case rel => exact ⟨k + 1, _, _, _, M, by have := HLT.out; omega, by go_num, rfl, Lib.hid ⟨HF.out.1, by rw [HNx.out, HR.out.2.1]; simp, HF.out.2⟩⟩
            case measure => have := HLT.out; simp [intOf]; omega
          · go_wp2
            go_roundw
            case rel => exact ⟨k + 1, _, _, _, M, by have := HLT.out; omega, by go_num, rfl, Lib.hid ⟨HF.out.1, by rw [HNx.out, HR.out.2.1]; simp, HF.out.2⟩⟩
            case measure => have := HLT.out; simp [intOf]; omega
    · have hkl : ¬ (k : Int) < (n : Int) := by omega
      obtain rfl : k = n := by omega
      have HF : Hid (RowS wr w.heap.size (.slice a7 n7 c7) M ∧ M.map Sm.s = activeL l now ∧ Below w.heap.size w wr) := Lib.hid ⟨HR.out.1, by have := HR.out.2.1; rw [HN.out, List.take_length] at this; exact this, HR.out.2.2⟩
      clear HR hk
      go_wp2
      go_ret
      exact ⟨a7, n7, c7, M, rfl, HF.out.1, HF.out.2.1, HF.out.2.2⟩


def oneS : Sil := ⟨⟨#[120]⟩, [(⟨#[97]⟩, 0, ⟨#[49]⟩)], 2, 9⟩
def oneE : Ent := ⟨⟨#[115, 120]⟩, 3, 4, ⟨#[108, 49, 58, 97, 105, 48, 101, 49, 58, 49, 105, 50, 101, 105, 57, 101, 101]⟩, 9⟩
theorem one_ok : entryE oneS 3 = 0 := by decide +kernel
theorem one_ent : entS oneS 3 4 = oneE := by
  refine ent_ext ?_ rfl rfl ?_ rfl
  · exact bytes_ext (by decide +kernel)
  · exact bytes_ext (by decide +kernel)
theorem one_is : IsE oneS oneE := ⟨one_ok, one_ent⟩
theorem one_act8 : activeL [oneE] 8 = [oneS] := by
  unfold activeL actOf
  simp only [List.filterMap, ofS_some.2 one_is]
  rfl
theorem one_act9 : activeL [oneE] 9 = [] := by
  unfold activeL actOf
  simp only [List.filterMap, ofS_some.2 one_is]
  rfl
def onePs : List Pr := [(⟨#[97]⟩, ⟨#[49]⟩)]
theorem one_asks : silAsk onePs oneS := by
  intro m hm
  simp only [oneS, List.mem_singleton] at hm
  subst hm
  refine ⟨by decide +kernel, .inl ⟨rfl, by decide +kernel⟩⟩
theorem one_not : ¬ silAsk [] oneS := by
  intro h
  have h1 := (h _ (List.mem_cons_self ..)).2
  rcases h1 with ⟨-, h2⟩ | ⟨h2, -⟩ | ⟨h2, -⟩ | ⟨h2, -⟩
  · exact absurd h2 (by decide +kernel)
  · cases h2
  · cases h2
  · cases h2

set_option maxHeartbeats 1000000 in
theorem slone_any (w : World) : Calls Tryz.prog 67 #[.int .i64 2, .int .i64 9] w fun e w' => e = .returned (.agg #[.string ⟨#[120]⟩, .slice (some ⟨w.heap.size + 1, 0, none⟩) 1 1, .int .i64 2, .int .i64 9]) ∧ MtsAt w' (some ⟨w.heap.size + 1, 0, none⟩) oneS.ms ∧ Below w.heap.size w w' := by
  go_enter Tryz.func67, Tryz.ntmps67
  go_wp2
  have hm : ((w.alloc (.cells #[.string ⟨#[120]⟩, .slice (some ⟨w.heap.size + 1, 0, none⟩) 1 1, .int .i64 2, .int .i64 9] 55)).alloc (.cells #[.string ⟨#[97]⟩, .int .u8 0, .string ⟨#[49]⟩] 131)).heap[w.heap.size + 1]? = some (.cells #[.string ⟨#[97]⟩, .int .u8 0, .string ⟨#[49]⟩] 131) := by
    have := newE (w.alloc (.cells #[.string ⟨#[120]⟩, .slice (some ⟨w.heap.size + 1, 0, none⟩) 1 1, .int .i64 2, .int .i64 9] 55)) (.cells #[.string ⟨#[97]⟩, .int .u8 0, .string ⟨#[49]⟩] 131)
    rwa [World.size_alloc] at this
  refine bodyPost_ret (v := .agg #[.string ⟨#[120]⟩, .slice (some ⟨w.heap.size + 1, 0, none⟩) 1 1, .int .i64 2, .int .i64 9]) (by simp [results, Tryz.results67, go_sem]) rfl ?_
  refine ⟨rfl, fun _ => ⟨_, 0, rfl, ltE hm, fun i hi => ?_⟩, ((Below.refl _ _).alloc (Nat.le_refl _) _).alloc (by simp) _⟩
  obtain rfl : i = 0 := by have : i < 1 := hi; omega
  exact ⟨cellE hm, cellE hm, cellE hm⟩

theorem ents_one (w : World) (x : Ent) : EntsAt (w.alloc (.cells #[.string x.k, .int .i64 x.t, .int .u16 x.o, .string x.v, .int .i64 x.u] 60)) (some ⟨w.heap.size, 0, none⟩) [x] := fun _ => ⟨_, 0, rfl, by simp, fun i hi j v hv => by
  obtain rfl : i = 0 := by have : i < 1 := hi; omega
  have e : (w.alloc (.cells #[.string x.k, .int .i64 x.t, .int .u16 x.o, .string x.v, .int .i64 x.u] 60)).cell? ⟨w.heap.size, 0 + 0 * 5 + j, none⟩ = (#[.string x.k, .int .i64 x.t, .int .u16 x.o, .string x.v, .int .i64 x.u] : Array Value)[0 + 0 * 5 + j]? := cellE (newE w _)
  rw [e, show 0 + 0 * 5 + j = j by omega]
  have hv' : (encE x)[j]? = some v := hv
  rw [← hv']
  simp [encE]⟩
theorem pairs_one (w : World) (x : Pr) : PairsAt (w.alloc (.cells #[.string x.1, .string x.2] 83)) (some ⟨w.heap.size, 0, none⟩) [x] := fun _ => ⟨_, 0, rfl, fun i hi => by
  obtain rfl : i = 0 := by have : i < 1 := hi; omega
  exact ⟨cellE (newE w _), cellE (newE w _)⟩⟩

theorem map_one : ∀ {M : List Sm} {s : Sil}, M.map Sm.s = [s] → ∃ y, M = [y] ∧ y.s = s
  | [y], s, h => ⟨y, rfl, by simpa using h⟩
  | [], s, h => by simp at h
  | y :: z :: r, s, h => by simp at h
/-- Which of silences ask labels. -/
theorem asks_ex (ps : List Pr) : ∃ p : Sm → Bool, ∀ x, p x = true ↔ silAsk ps x.s := ⟨fun x => @decide (silAsk ps x.s) (Classical.propDecidable _), fun x => by simp⟩

set_option maxRecDepth 100000 in
set_option maxHeartbeats 4000000 in
theorem slawake_any (B : Nat) (w : World) (hB : B ≤ w.heap.size) (hv : VarsOk B w) (htab : TabW w) :
    Calls Tryz.prog 22 #[] w fun e w' => e = .returned (.bool true) ∧ Below w.heap.size w w' := by
  have HO := Lib.hid (slone_any w)
  have HX := Lib.hid (And.intro hB (And.intro hv htab))
  clear hB hv htab
  go_enter Tryz.func22, Tryz.ntmps22
  go_wp2_with (go_at_call 67; refine HO.out.mono ?_; rintro e w1 ⟨rfl, hm1, q1⟩; refine Hid.out ?_)
  refine Lib.hid ?_
  have hen := sEntry_ok oneS (some ⟨w.heap.size + 1, 0, none⟩) 1 3 4 w1 (HX.out.2.2.on q1 HX.out.2.2.lt) hm1 one_ok B (Nat.le_trans HX.out.1 q1.size) (HX.out.2.1.on (q1.mono HX.out.1)) 1 rfl
  have e1 : keyS oneS.id = ⟨#[115, 120]⟩ := congrArg Ent.k one_ent
  have e2 : (⟨(layS oneS.ms oneS.st oneS.en).toArray⟩ : ByteArray) = ⟨#[108, 49, 58, 97, 105, 48, 101, 49, 58, 49, 105, 50, 101, 105, 57, 101, 101]⟩ := congrArg Ent.v one_ent
  rw [e1, e2] at hen
  have HE : Hid (Calls Tryz.prog 23 #[.agg #[.string ⟨#[120]⟩, .slice (some ⟨w.heap.size + 1, 0, none⟩) 1 1, .int .i64 2, .int .i64 9], .int .i64 3, .int .u16 4] w1 fun e w' => e = .returned (.tuple #[.agg #[.string ⟨#[115, 120]⟩, .int .i64 3, .int .u16 4, .string ⟨#[108, 49, 58, 97, 105, 48, 101, 49, 58, 49, 105, 50, 101, 105, 57, 101, 101]⟩, .int .i64 9], .int .i64 0]) ∧ Below w1.heap.size w1 w') := Lib.hid hen
  have HQ1 := Lib.hid q1
  clear hen e1 e2 hm1 q1 HO
  go_wp2_with (go_at_call 23; refine HE.out.mono ?_; rintro e w2 ⟨rfl, q2⟩; refine Hid.out ?_)
  refine Lib.hid ?_
  have D2 : Below w.heap.size w w2 := HQ1.out.trans (q2.mono HQ1.out.size)
  have b3 := EBlk.new w2 oneE
  have d3 := (Below.refl w2.heap.size w2).alloc (Nat.le_refl _) (.cells #[.string oneE.k, .int .i64 oneE.t, .int .u16 oneE.o, .string oneE.v, .int .i64 oneE.u] 60)
  have D3 := D2.trans (d3.mono D2.size)
  generalize hw3 : w2.alloc (.cells #[.string oneE.k, .int .i64 oneE.t, .int .u16 oneE.o, .string oneE.v, .int .i64 oneE.u] 60) = w3 at *
  have d4 := (Below.refl w3.heap.size w3).alloc (Nat.le_refl _) (.cells #[.string oneE.k, .int .i64 oneE.t, .int .u16 oneE.o, .string oneE.v, .int .i64 oneE.u] 60)
  have D4 := D3.trans (d4.mono D3.size)
  have hA := sActive_any (some ⟨w3.heap.size, 0, none⟩) 1 [oneE] 8 B _ (Nat.le_trans HX.out.1 D4.size) (HX.out.2.1.on (D4.mono HX.out.1)) (HX.out.2.2.on D4 HX.out.2.2.lt) (ents_one w3 oneE) (fun x hx => by simp only [List.mem_singleton] at hx; subst hx; show 17 ≤ 1048576; omega) 1 rfl (by omega)
  have b4 := b3.on d4
  have s3 : w3.heap.size = w2.heap.size + 1 := by rw [← hw3]; simp
  rw [s3] at hA
  rw [← hw3] at hA b4 D4
  clear s3
  have HA := Lib.hid hA
  have HB4 := Lib.hid (And.intro b4 D4)
  clear hA b4 D4 d4 D3 d3 b3 D2 q2 HQ1 HE hw3
  dsimp only [oneE] at HA HB4
  go_wp2_with (go_at_call 33; refine HA.out.mono ?_; rintro e w5 ⟨a5, n5, c5, M5, rfl, hr5, hm5, q5⟩; replace hm5 := Lib.hid hm5; replace hr5 := Lib.hid hr5; replace q5 := Lib.hid q5; refine Hid.out ?_)
  refine Lib.hid ?_
  have hmap : M5.map Sm.s = [oneS] := hm5.out.trans one_act8
  obtain ⟨y, rfl, hys⟩ := map_one hmap
  obtain ⟨hn5, hat5⟩ := hr5.out.at
  obtain rfl : n5 = 1 := hn5
  obtain ⟨b4, D4⟩ := HB4.out
  have b5 := b4.on q5.out
  have D5 : Below w.heap.size w w5 := D4.trans (q5.out.mono D4.size)
  have c0 := b5.c0; have c1 := b5.c1; have c2 := b5.c2; have c3 := b5.c3; have c4 := b5.c4
  dsimp only at c0 c1 c2 c3 c4
  have heq := fun u => run_eqE oneE oneE u
  rw [eqEn_refl] at heq
  dsimp only [oneE] at heq
  -- the first question
  obtain ⟨p1, hp1⟩ := asks_ex onePs
  have d6 := (Below.refl w5.heap.size w5).alloc (Nat.le_refl _) (.cells #[.string ⟨#[97]⟩, .string ⟨#[49]⟩] 83)
  have D6 := D5.trans (d6.mono D5.size)
  have hM := sMutes_any a5 c5 [y] (some ⟨w5.heap.size, 0, none⟩) 1 onePs p1 hp1 (w5.alloc (.cells #[.string ⟨#[97]⟩, .string ⟨#[49]⟩] 83)) (HX.out.2.2.on D6 HX.out.2.2.lt) (hat5.below d6 (Nat.le_refl _)) (fun x hx => by simp only [List.mem_singleton] at hx; subst hx; rw [hys]; show 1 ≤ _; omega) (pairs_one w5 (⟨#[97]⟩, ⟨#[49]⟩)) (show 1 ≤ _ by omega) (fun q hq => by simp only [onePs, List.mem_singleton] at hq; subst hq; show 1 ≤ _; omega) 1 rfl (by omega) 1 rfl
  have ha1 : [y].any p1 = true := by simp [(hp1 y).2 (by rw [hys]; exact one_asks)]
  rw [ha1] at hM
  have HM := Lib.hid hM
  have HS5 := Lib.hid (And.intro (hr5.out.on d6) (And.intro (b5.on d6) (And.intro D6 hys)))
  clear hM ha1 hp1 hat5 D5 b5 d6 D6 b4 D4 hm5 hr5 q5 hmap HA HB4
  go_wp2_with (go_at_call 35; refine HM.out.mono ?_; rintro e w7 ⟨rfl, q7⟩; replace q7 := Lib.hid q7; refine Hid.out ?_)
  refine Lib.hid ?_
  obtain ⟨hr6, b6, D6, hys⟩ := HS5.out
  have hr7 := hr6.on q7.out
  have b7 := b6.on q7.out
  have D7 : Below w.heap.size w w7 := D6.trans (q7.out.mono D6.size)
  obtain ⟨p2, hp2⟩ := asks_ex []
  have hM := sMutes_any a5 c5 [y] none 0 [] p2 hp2 w7 (HX.out.2.2.on D7 HX.out.2.2.lt) hr7.at.2 (fun x hx => by simp only [List.mem_singleton] at hx; subst hx; rw [hys]; show 1 ≤ _; omega) (fun h => absurd h (Nat.lt_irrefl 0)) (Nat.zero_le _) (fun q hq => by cases hq) 1 rfl (by omega) 0 rfl
  have ha2 : [y].any p2 = false := by
    have : p2 y = false := by
      cases h : p2 y with
      | false => rfl
      | true => exact absurd ((hp2 y).1 h) (by rw [hys]; exact one_not)
    simp [this]
  rw [ha2] at hM
  have HM2 := Lib.hid hM
  have HS7 := Lib.hid (And.intro b7 D7)
  clear hM ha2 hp2 hr6 hr7 b6 b7 D6 D7 q7 HM HS5 c0 c1 c2 c3 c4 heq
  go_wp2_with (go_at_call 35; refine HM2.out.mono ?_; rintro e w8 ⟨rfl, q8⟩; replace q8 := Lib.hid q8; refine Hid.out ?_)
  refine Lib.hid ?_
  obtain ⟨b7, D7⟩ := HS7.out
  have b8 := b7.on q8.out
  have D8 : Below w.heap.size w w8 := D7.trans (q8.out.mono D7.size)
  have c0 := b8.c0; have c1 := b8.c1; have c2 := b8.c2; have c3 := b8.c3; have c4 := b8.c4
  dsimp only at c0 c1 c2 c3 c4
  have d9 := (Below.refl w8.heap.size w8).alloc (Nat.le_refl _) (.cells #[.string ⟨#[115, 120]⟩, .int .i64 3, .int .u16 4, .string ⟨#[108, 49, 58, 97, 105, 48, 101, 49, 58, 49, 105, 50, 101, 105, 57, 101, 101]⟩, .int .i64 9] 60)
  have D9 := D8.trans (d9.mono D8.size)
  have hA := sActive_any (some ⟨w8.heap.size, 0, none⟩) 1 [oneE] 9 B (w8.alloc (.cells #[.string ⟨#[115, 120]⟩, .int .i64 3, .int .u16 4, .string ⟨#[108, 49, 58, 97, 105, 48, 101, 49, 58, 49, 105, 50, 101, 105, 57, 101, 101]⟩, .int .i64 9] 60)) (Nat.le_trans HX.out.1 D9.size) (HX.out.2.1.on (D9.mono HX.out.1)) (HX.out.2.2.on D9 HX.out.2.2.lt) (ents_one w8 oneE) (fun x hx => by simp only [List.mem_singleton] at hx; subst hx; show 17 ≤ 1048576; omega) 1 rfl (by omega)
  have HA := Lib.hid hA
  have HD9 := Lib.hid D9
  clear hA D9 d9 D8 b8 b7 D7 q8 HM2 HS7
  go_wp2_with (go_at_call 33; refine HA.out.mono ?_; rintro e wA ⟨aA, nA, cA, MA, rfl, hrA, hmA, qA⟩; replace hmA := Lib.hid hmA; replace hrA := Lib.hid hrA; replace qA := Lib.hid qA; refine Hid.out ?_)
  refine Lib.hid ?_
  have hz : MA = [] := List.map_eq_nil_iff.1 (hmA.out.trans one_act9)
  obtain ⟨hnA, -⟩ := hrA.out.at
  obtain rfl : nA = 0 := by rw [hnA, hz]; rfl
  have HF := Lib.hid (HD9.out.trans (qA.out.mono HD9.out.size))
  clear hz hnA hrA hmA qA HA HD9 c0 c1 c2 c3 c4
  go_wp2
  go_ret
  exact ⟨rfl, HF.out⟩

end Go.Proofs.YtcngifkoopcmeaaGreatDoor
