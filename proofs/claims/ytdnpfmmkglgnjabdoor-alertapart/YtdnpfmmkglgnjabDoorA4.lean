/-
  The keys of a store in their order (slices.Sorted of maps.Keys). Alerts in a row of a call's own. What pick, All and Firing of package alert tell.
-/
import Derived.Test.YtdnpfmmkglgnjabDoorA3
import Derived.Test.YtdnpfmmkglgnjabDoorAShelf
import Derived.Test.YtdnpfmmkglgnjabDoorLApp
namespace Go.Proofs.YtdnpfmmkglgnjabDoor
open Go.RowKit Go.Maps Go.Sort Go.Shelf

theorem asorts (m : Nat) : AnyZ.SortsIn Tryd.prog Tryd.lSorted_ren Fence.wide m :=
  ⟨fun blk off cap ss W hH hblk hsz => callsIn_wide.2 (AnyM.slices_Sort_string Tryd.lSortS blk off cap ss W hH hblk hsz),
   fun p cap W => callsIn_wide.2 (AnyM.slices_Sort_string_none Tryd.lSortS p cap W)⟩
theorem aKeys_any (mb : Option Nat) (w : World) : Calls Tryd.prog 31 #[.map mb] w fun e w' => e = .returned (.func (.func 41) #[] #[.pointer (some ⟨w.heap.size, 0, none⟩)]) ∧ w' = w.alloc (.cells #[.map mb] 45) :=
  (callsIn_wide (n := 5)).1 (AnyZ.keys_in Tryd.lKeys Fence.wide 5 trivial rfl mb w)

theorem sort_rising {S : List Rw} (h : Rising S) {ss : List (List UInt8)} (hp : ss.Perm (S.map Rw.key)) : ss.mergeSort (fun x y => decide (x ≤ y)) = S.map Rw.key := by
  have e : ss.mergeSort leB = (S.map Rw.key).mergeSort leB := mergeSort_of_perm hp
  show ss.mergeSort leB = _
  rw [e]
  refine List.mergeSort_of_pairwise ?_
  rw [List.pairwise_map]
  exact h.imp fun {x y} hxy => by
    simp only [leB, decide_eq_true_eq]
    exact List.le_of_lt hxy

set_option maxHeartbeats 1000000 in
/-- The keys of a store, in their order. -/
theorem aSorted_any (bm : Nat) (S : List Rw) (w : World) (hm : StMap w bm S) (hn : S.length ≤ 1048576) (Bm : Nat) (hB : Bm < w.heap.size) (hc : w.cell? ⟨Bm, 0, none⟩ = some (.map (some bm))) :
    Calls Tryd.prog 30 #[.func (.func 41) #[] #[.pointer (some ⟨Bm, 0, none⟩)]] w fun e w' => ∃ v, e = .returned v ∧ w'.ownsRow w.heap.size 9 1 v S.length ((S.map Rw.key).map encStr) ∧ Below w.heap.size w w' := by
  have hseq : SeqGives Fence.wide 2 Tryd.prog 41 #[.pointer (some ⟨Bm, 0, none⟩)] encStr (fun ss => ss.Perm (strKeys (datum S))) (Maps.size (datum S)) w :=
    AnyZ.keys_gives (ρ := Tryd.lKeys_ren) { Tryd.lKeys with } Fence.wide _ trivial rfl (by omega) Bm bm S.length (datum S) w hB hc hm
  have cS := AnyZ.sorted_in Tryd.lSorted Fence.wide 5 trivial trivial trivial trivial rfl (by omega) (asorts _) (enters_of Tryd.func40 (by kernel_rfl) rfl) 41 #[.pointer (some ⟨Bm, 0, none⟩)] trivial (enters_of Tryd.func41 (by kernel_rfl) rfl) _ _ (by rw [datum_size]; unfold maxLen; omega) (by rw [datum_size]; omega) _ hseq
  refine ((callsIn_wide (n := 5)).1 cS).mono ?_
  rintro e w' ⟨v, ss, rfl, hp, hrow, -, hb⟩
  rw [datum_keys] at hp
  rw [sort_rising hm.rising hp, hp.length_eq, List.length_map] at hrow
  exact ⟨v, rfl, hrow, hb⟩

/-- A row of keys. -/
theorem keysRow {w : World} {B : Nat} {v : Value} {S : List Rw} (h : w.ownsRow B 9 1 v S.length ((S.map Rw.key).map encStr)) :
    ∃ ak ck, v = .slice ak S.length ck ∧ ∀ i (hi : i < S.length), ∃ g, ak = some ⟨g, 0, none⟩ ∧ g < w.heap.size ∧ w.cell? ⟨g, i, none⟩ = some (.string ⟨(S[i].key).toArray⟩) := by
  rcases h.2 with ⟨rfl, h0⟩ | ⟨g, cap, cur, rfl, hg0, hg1, hcap, hmax, hcs, htk⟩
  · exact ⟨none, 0, by rw [h0], fun i hi => by omega⟩
  · refine ⟨_, _, rfl, fun i hi => ⟨g, rfl, ltA hg1, ?_⟩⟩
    have := World.ownsRow.cellAt h i (by omega)
    rw [this]
    simp [hi, encStr]

/-- An alert's three cells. -/
def encW (r : Rw) : List Value := [.slice r.ad r.ps.length r.cp, .int .i64 r.st, .int .i64 r.en]
def cellsW (L : List Rw) : List Value := L.flatMap encW
theorem cellsW_len : ∀ L : List Rw, (cellsW L).length = L.length * 3
  | [] => rfl
  | p :: r => by
    have := cellsW_len r
    simp only [cellsW, List.flatMap_cons, List.length_append, List.length_cons] at *
    rw [this]
    simp [encW]
    omega
theorem cellsW_append (L M : List Rw) : cellsW (L ++ M) = cellsW L ++ cellsW M := List.flatMap_append
theorem cellsW_get : ∀ (L : List Rw) (i : Nat) (hi : i < L.length), (cellsW L)[i * 3]? = some (.slice L[i].ad L[i].ps.length L[i].cp) ∧ (cellsW L)[i * 3 + 1]? = some (.int .i64 L[i].st) ∧ (cellsW L)[i * 3 + 2]? = some (.int .i64 L[i].en)
  | p :: r, 0, _ => ⟨rfl, rfl, rfl⟩
  | p :: r, i + 1, hi => by
    have := cellsW_get r i (by simpa using hi)
    have e : cellsW (p :: r) = encW p ++ cellsW r := rfl
    have l : (encW p).length = 3 := rfl
    rw [e, List.getElem?_append_right (by omega), List.getElem?_append_right (by omega), List.getElem?_append_right (by omega), l]
    simpa [show (i + 1) * 3 - 3 = i * 3 by omega, show (i + 1) * 3 + 1 - 3 = i * 3 + 1 by omega, show (i + 1) * 3 + 2 - 3 = i * 3 + 2 by omega] using this
theorem cellsW_one {L : List Rw} : ∀ u ∈ cellsW L, u.oneCell' = true := fun u h => by
  obtain ⟨r, -, h2⟩ := List.mem_flatMap.1 h
  simp only [encW, List.mem_cons, List.not_mem_nil, or_false] at h2
  rcases h2 with rfl | rfl | rfl <;> rfl
/-- A slice of alerts in blocks from B on. -/
def OwnA (w : World) (B : Nat) (v : Value) (L : List Rw) : Prop := w.ownsRow B 25 3 v L.length (cellsW L)
theorem infoAl : (Tryd.prog.info? 25).map (fun i => (i.zero, i.size, i.bytes)) = some (some (.agg #[.slice none 0 0, .int .i64 0, .int .i64 0]), 3, 40) := by kernel_rfl
theorem OwnP.past {w w' : World} {B B' : Nat} {v v5 : Value} {ps : List Pr} {L : List Rw} (h : OwnP w B v ps) (ho : OwnA w B' v5 L) (hg : w.grownBy w' v5.ownBlock) : OwnP w' B v ps := by
  refine World.ownsRow.kept h hg ?_
  rcases h.2 with ⟨rfl, -⟩ | ⟨g, cap, cur, rfl, -, hg1, -⟩
  · exact .inl rfl
  · refine .inr fun e => ?_
    rcases ho.2 with ⟨rfl, -⟩ | ⟨g', cap', cur', rfl, -, hg2, -⟩
    · cases e
    · obtain rfl : g = g' := by simpa [Value.ownBlock] using e
      rw [hg1] at hg2
      simp at hg2
theorem OwnP.onB {w w' : World} {B N : Nat} {v : Value} {ps : List Pr} (h : OwnP w B v ps) (hb : Below N w w') (hN : w.heap.size ≤ N) : OwnP w' B v ps :=
  World.ownsRow.kept h (gOf (hb.mono hN) none) (by cases hv : v.ownBlock <;> simp)
theorem OwnA.onB {w w' : World} {B N : Nat} {v : Value} {L : List Rw} (h : OwnA w B v L) (hb : Below N w w') (hN : w.heap.size ≤ N) : OwnA w' B v L :=
  World.ownsRow.kept h (gOf (hb.mono hN) none) (by cases hv : v.ownBlock <;> simp)
theorem OwnA.push {w : World} {B : Nat} {v : Value} {L : List Rw} {r : Rw} (h : w.ownsRow B 25 3 v (L.length + 1) (cellsW L ++ encW r)) : OwnA w B v (L ++ [r]) := by
  unfold OwnA
  rw [cellsW_append, List.length_append]
  simpa [cellsW] using h
theorem OwnA.form {w : World} {B : Nat} {v : Value} {L : List Rw} (h : OwnA w B v L) : ∃ a c, v = .slice a L.length c ∧ (a = none → c = 0) ∧ (∀ q, a = some q → B ≤ q.block ∧ q.block < w.heap.size ∧ q = ⟨q.block, 0, none⟩) ∧
    ∀ i (hi : i < L.length), ∃ g, a = some ⟨g, 0, none⟩ ∧ w.cell? ⟨g, i * 3, none⟩ = some (.slice L[i].ad L[i].ps.length L[i].cp) ∧ w.cell? ⟨g, i * 3 + 1, none⟩ = some (.int .i64 L[i].st) ∧ w.cell? ⟨g, i * 3 + 2, none⟩ = some (.int .i64 L[i].en) := by
  rcases h.2 with ⟨rfl, h0⟩ | ⟨g, cap, cur, rfl, hg0, hg1, hcap, hmax, hcs, htk⟩
  · exact ⟨none, 0, by rw [h0], fun _ => rfl, (fun q e => by cases e), fun i hi => by omega⟩
  · refine ⟨_, _, rfl, (fun e => by cases e), (fun q e => by obtain rfl := Option.some.inj e; exact ⟨hg0, ltA hg1, rfl⟩), fun i hi => ⟨g, rfl, ?_⟩⟩
    obtain ⟨h1, h2, h3⟩ := cellsW_get L i hi
    rw [World.ownsRow.cellAt h _ (by omega), World.ownsRow.cellAt h _ (by omega), World.ownsRow.cellAt h _ (by omega)]
    exact ⟨h1, h2, h3⟩

/-- Alerts of a call's own, their labels, too. -/
def Picked (w : World) (B : Nat) (v : Value) (L : List Rw) : Prop := OwnA w B v L ∧ ∀ r ∈ L, OwnP w B (.slice r.ad r.ps.length r.cp) r.ps
theorem Picked.onB {w w' : World} {B N : Nat} {v : Value} {L : List Rw} (h : Picked w B v L) (hb : Below N w w') (hN : w.heap.size ≤ N) : Picked w' B v L := ⟨h.1.onB hb hN, fun r hr => (h.2 r hr).onB hb hN⟩
theorem Picked.base {w : World} {B B' : Nat} {v : Value} {L : List Rw} (h : Picked w B v L) (hb : B' ≤ B) : Picked w B' v L := ⟨baseA h.1 hb, fun r hr => baseA (h.2 r hr) hb⟩

set_option maxRecDepth 100000 in
set_option maxHeartbeats 4000000 in
theorem aPick_any (sb bm : Nat) (S : List Rw) (p : Int → Int → Bool) (g : Nat) (lb : Array Value) (eg : ∀ args w, (callFunc g args).run Tryd.prog w = .ok (.enter g args) w) (w : World) (h : StAt w sb bm S) (hn : S.length ≤ 64)
    (hp : ∀ W, Below w.heap.size w W → ∀ r ∈ S, Calls Tryd.prog g (#[.agg #[.slice r.ad r.ps.length r.cp, .int .i64 r.st, .int .i64 r.en]] ++ lb) W fun e w' => e = .returned (.bool (p r.st r.en)) ∧ Below W.heap.size W w') :
    Calls Tryd.prog 17 #[.pointer (some ⟨sb, 0, none⟩), .func (.func g) #[] lb] w fun e w' => ∃ v L, e = .returned v ∧ Picked w' w.heap.size v L ∧ L.map Rw.al = (S.filter fun r => p r.st r.en).map Rw.al ∧ Below w.heap.size w w' := by
  obtain ⟨i0, hi, hi0, hi1, hi2⟩ := info_parts infoAl
  have hR := h.2.1.rising
  have d1 := (Below.refl w.heap.size w).alloc (Nat.le_refl _) (.cells #[.map (some bm)] 45)
  have HS := Lib.hid (aSorted_any bm S (w.alloc (.cells #[.map (some bm)] 45)) (h.2.1.below d1 h.2.1.lt) (by omega) w.heap.size (by simp) (cellA (newA w _)))
  have HK := Lib.hid (aKeys_any (some bm))
  have HP := Lib.hid hp
  have s1 : (w.alloc (.cells #[.map (some bm)] 45)).heap.size = w.heap.size + 1 := by simp
  have HH := Lib.hid (And.intro h (And.intro d1 s1))
  have c0 := h.1.c0
  clear hp h d1 s1
  go_enter Tryd.func17, Tryd.ntmps17
  go_wp2_with (first
    | (go_at_call 31; refine (HK.out _).mono ?_; rintro e w1 ⟨rfl, rfl⟩)
    | (go_at_call 30; refine HS.out.mono ?_; rintro e wK ⟨v, rfl, hrow, hbK⟩; refine Hid.out ?_))
  refine Lib.hid ?_
  obtain ⟨h, d1, s1⟩ := HH.out
  obtain ⟨ak, ck, rfl, hks⟩ := keysRow hrow
  have bK := d1.trans (hbK.mono (by omega))
  have HKS := Lib.hid hks
  have HBK := Lib.hid (And.intro h bK)
  clear hks hrow hbK bK d1 s1 h HH HS HK c0
  go_wp2
  go_loopw [5, 18] (fun v i wr => ∃ (k : Nat) (a5 : Option Addr) (n5 c5 : Nat) (L : List Rw), k ≤ S.length ∧ i = .int .i64 k ∧ v = .slice a5 n5 c5 ∧ Hid (Picked wr wK.heap.size (.slice a5 n5 c5) L ∧ L.map Rw.al = ((S.take k).filter fun r => p r.st r.en).map Rw.al) ∧ Hid (Below wK.heap.size wK wr)) (fun _ i _ => S.length - (intOf i).toNat)
  case atStart => exact ⟨0, none, 0, 0, [], Nat.zero_le _, rfl, rfl, Lib.hid ⟨⟨World.ownsRow_nil _ _ _ _, fun r hr => by cases hr⟩, by simp⟩, Lib.hid (Below.refl _ _)⟩
  case round =>
    obtain ⟨k, a5, n5, c5, L, hk, rfl, rfl, HL, HB⟩ := hrel
    by_cases hlt : k < S.length
    · have hkl : (k : Int) < (S.length : Int) := by omega
      obtain ⟨gk, rfl, hgk, hck⟩ := HKS.out k hlt
      obtain ⟨h, bK⟩ := HBK.out
      have br := bK.trans (HB.out.mono bK.size)
      have hr := h.below br (Nat.le_refl _)
      have hx : S[k] ∈ S := List.getElem_mem hlt
      have hck2 : wr.cell? ⟨gk, k, none⟩ = some (.string ⟨(S[k].key).toArray⟩) := (HB.out.cell (p := ⟨gk, k, none⟩) hgk).trans hck
      have hal : alE S[k].ps S[k].st S[k].en = 0 := (h.2.2 _ hx).2
      have hl := hr.2.1.look_yes hx (akey_len (alE_zero hal).1) false
      have hpa : PairsAt wr S[k].ad S[k].ps := (hr.2.2 _ hx).1
      have c0 := hr.1.c0
      have HT : Hid (S.take (k + 1) = S.take k ++ [S[k]]) := Lib.hid (List.take_succ_eq_append_getElem hlt)
      have HQ := Lib.hid (fun W (hb : Below w.heap.size w W) => HP.out W hb S[k] hx)
      have HLn : Hid (L.length ≤ k) := Lib.hid (by
        have e := congrArg List.length HL.out.2
        rw [List.length_map, List.length_map] at e
        have := List.length_filter_le (fun r : Rw => p r.st r.en) (S.take k)
        rw [List.length_take] at this
        omega)
      clear hck h hx hr
      generalize hrk : S[k] = r0 at *
      clear hrk
      have hl' : (Instr.lookup 45 (.map (some bm)) (.string ⟨r0.key.toArray⟩) false).run Tryd.prog wr = .ok (.agg #[.slice r0.ad r0.ps.length r0.cp, .int .i64 r0.st, .int .i64 r0.en]) wr := hl
      clear hl
      have hwb : Below w.heap.size w (wr.alloc (.cells #[.slice r0.ad r0.ps.length r0.cp, .int .i64 r0.st, .int .i64 r0.en] 25)) := br.alloc br.size _
      have dwb := (Below.refl wr.heap.size wr).alloc (Nat.le_refl _) (.cells #[.slice r0.ad r0.ps.length r0.cp, .int .i64 r0.st, .int .i64 r0.en] 25)
      have hkb := AlBlk.new wr r0.ad r0.ps.length r0.cp r0.st r0.en
      have HPL := Lib.hid (And.intro dwb (And.intro hpa (And.intro hkb (And.intro br (acheck_len (alE_zero hal).1)))))
      have HQ2 := Lib.hid (HQ.out _ hwb)
      clear HQ hwb dwb hpa hkb br hal
      cases hq : p r0.st r0.en with
      | true =>
        rw [hq] at HQ2
        go_wp2_with (go_at_fn g; refine HQ2.out.mono ?_; rintro e w2 ⟨rfl, hb2⟩; refine Hid.out ?_)
        refine Lib.hid ?_
        obtain ⟨dwb, hpa, hkb, br, h8⟩ := HPL.out
        have e2 : Below wr.heap.size wr w2 := dwb.trans (hb2.mono dwb.size)
        have k2 := hkb.below hb2 (ltA hkb)
        have c0' := k2.c0; have c1' := k2.c1; have c2' := k2.c2
        have HO := Lib.hid (aOwn_any r0.ad r0.cp r0.ps r0.st r0.en w2 (hpa.below e2 (Nat.le_refl _)) (by omega) _ rfl)
        have E2 := Lib.hid e2
        clear hl' hck2 c0 dwb hpa hkb hb2 k2 e2 h8 HQ2 HPL
        go_wp2_with (go_at_call 22; refine HO.out.mono ?_; rintro e w3 ⟨a', c', rfl, hown, hb3⟩; refine Hid.out ?_)
        refine Lib.hid ?_
        obtain ⟨hL1, hL2⟩ := HL.out
        have e3 : Below wr.heap.size wr w3 := E2.out.trans (hb3.mono E2.out.size)
        have hL3 := hL1.onB e3 (Nat.le_refl _)
        have hwK : wK.heap.size ≤ w3.heap.size := Nat.le_trans HB.out.size e3.size
        have hLn := HLn.out
        have HOP := Lib.hid (baseA hown (show wK.heap.size ≤ w2.heap.size from Nat.le_trans HB.out.size E2.out.size))
        have HL3 := Lib.hid (And.intro hL3 (And.intro hL2 (HB.out.trans (e3.mono HB.out.size))))
        have hown3 := hL3.1
        clear hL1 hL2 e3 hL3 hown hb3 HO E2 HL HB c0' c1' c2' br
        go_wp2_with (at_builtin; refine wpList_append_own _ rfl _ _ 30 rfl wK.heap.size 25 i0 _ 3 40 Tryd.underlying30 hi hi0 hi1 hi2 rfl (by decide) _ _ _ rfl (World.ownsRow.alloc hown3 _) ⟨_, 0, none⟩ 1 1 [.slice a' r0.ps.length c', .int .i64 r0.st, .int .i64 r0.en] rfl rfl (World.news_of_block (cs := #[.slice a' r0.ps.length c', .int .i64 r0.st, .int .i64 r0.en]) (heap_alloc_new _ _)) (by intro u' hu'; simp at hu'; rcases hu' with rfl | rfl | rfl <;> rfl) (by unfold maxLen; omega) (by omega) (by simp; omega) ?_; refine Hid.out ?_)
        refine Lib.hid ?_
        intro v5 w5 hown5 hg5 _
        obtain ⟨hL3, hL2, hB3⟩ := HL3.out
        have d4 := (Below.refl w3.heap.size w3).alloc (Nat.le_refl _) (.cells #[.slice a' r0.ps.length c', .int .i64 r0.st, .int .i64 r0.en] 25)
        have hL4 := hL3.onB d4 (Nat.le_refl _)
        have hP4 := OwnP.onB HOP.out d4 (Nat.le_refl _)
        have hA5 : OwnA w5 wK.heap.size v5 (L ++ [(⟨r0.ps, r0.st, r0.en, a', c'⟩ : Rw)]) := OwnA.push hown5
        obtain ⟨a6, c6, rfl, -, -, -⟩ := hA5.form
        have HL5 : Hid (Picked w5 wK.heap.size (.slice a6 (L ++ [(⟨r0.ps, r0.st, r0.en, a', c'⟩ : Rw)]).length c6) (L ++ [(⟨r0.ps, r0.st, r0.en, a', c'⟩ : Rw)]) ∧ (L ++ [(⟨r0.ps, r0.st, r0.en, a', c'⟩ : Rw)]).map Rw.al = ((S.take (k + 1)).filter fun r => p r.st r.en).map Rw.al) := Lib.hid ⟨⟨hA5, fun r hr => by
            rcases List.mem_append.1 hr with hr | hr
            · exact (hL4.2 r hr).past hL4.1 hg5
            · obtain rfl : r = _ := by simpa using hr
              exact hP4.past hL4.1 hg5⟩, by
            rw [List.map_append, hL2, HT.out, List.filter_append, List.map_append]
            simp [hq, Rw.al]⟩
        have HB5 : Hid (Below wK.heap.size wK w5) := Lib.hid ((hB3.alloc hB3.size _).grown hg5 (by simp; omega) (fun j hj => (World.ownsRow.lt hown3 j hj).1))
        clear hL3 hL2 hB3 d4 hL4 hP4 hA5 hown5 hg5 HL3 HOP hown3 hwK hLn hq
        generalize (L ++ [(⟨r0.ps, r0.st, r0.en, a', c'⟩ : Rw)]) = L5 at *
        go_wp2
        go_roundw
        case rel => exact ⟨k + 1, _, _, _, L5, by omega, by go_num, rfl, HL5, HB5⟩
        case measure => simp [intOf]; omega
      | false =>
        rw [hq] at HQ2
        go_wp2_with (go_at_fn g; refine HQ2.out.mono ?_; rintro e w2 ⟨rfl, hb2⟩; refine Hid.out ?_)
        refine Lib.hid ?_
        obtain ⟨dwb, hpa, hkb, br, h8⟩ := HPL.out
        have e2 : Below wr.heap.size wr w2 := dwb.trans (hb2.mono dwb.size)
        have HL2 : Hid (Picked w2 wK.heap.size (.slice a5 n5 c5) L ∧ L.map Rw.al = ((S.take (k + 1)).filter fun r => p r.st r.en).map Rw.al) := Lib.hid ⟨HL.out.1.onB e2 (Nat.le_refl _), by rw [HL.out.2, HT.out, List.filter_append]; simp [hq]⟩
        have HB2 := Lib.hid (HB.out.trans (e2.mono HB.out.size))
        clear hl' hck2 c0 dwb hpa hkb hb2 e2 h8 HQ2 HPL HL HB hq br
        go_wp2
        go_roundw
        case rel => exact ⟨k + 1, _, _, _, L, by omega, by go_num, rfl, HL2, HB2⟩
        case measure => simp [intOf]; omega
    · obtain rfl : k = S.length := by omega
      obtain ⟨h, bK⟩ := HBK.out
      have HF : Hid (∃ v L, (Value.slice a5 n5 c5) = v ∧ Picked wr w.heap.size v L ∧ L.map Rw.al = (S.filter fun r => p r.st r.en).map Rw.al ∧ Below w.heap.size w wr) := Lib.hid
        ⟨_, L, rfl, HL.out.1.base bK.size, by rw [HL.out.2, List.take_length], bK.trans (HB.out.mono bK.size)⟩
      clear h bK HL HB
      go_wp2
      go_ret
      obtain ⟨v, L', rfl, h1, h2, h3⟩ := HF.out
      exact ⟨_, L', rfl, h1, h2, h3⟩


set_option maxHeartbeats 400000 in
theorem aAll1_any (a : Option Addr) (n c : Nat) (s e : Int) (w : World) : Calls Tryd.prog 18 #[.agg #[.slice a n c, .int .i64 s, .int .i64 e]] w fun r w' => r = .returned (.bool true) ∧ Below w.heap.size w w' := by
  have d1 := (Below.refl w.heap.size w).alloc (Nat.le_refl _) (.cells #[.slice a n c, .int .i64 s, .int .i64 e] 25)
  go_enter Tryd.func18, Tryd.ntmps18
  go_wp2
  go_ret
  exact ⟨rfl, d1⟩

set_option maxHeartbeats 400000 in
theorem aFiring1_any (a : Option Addr) (n c : Nat) (s e now : Int) (B : Nat) (w : World) (hc : w.cell? ⟨B, 0, none⟩ = some (.int .i64 now)) (hB : B < w.heap.size) :
    Calls Tryd.prog 25 #[.agg #[.slice a n c, .int .i64 s, .int .i64 e], .pointer (some ⟨B, 0, none⟩)] w fun r w' => r = .returned (.bool (firesP s e now)) ∧ Below w.heap.size w w' := by
  have d1 := (Below.refl w.heap.size w).alloc (Nat.le_refl _) (.cells #[.slice a n c, .int .i64 s, .int .i64 e] 25)
  have hc1 : (w.alloc (.cells #[.slice a n c, .int .i64 s, .int .i64 e] 25)).cell? ⟨B, 0, none⟩ = some (.int .i64 now) := (d1.cell (p := ⟨B, 0, none⟩) hB).trans hc
  have HF := Lib.hid (aFires_any a n c s e now (w.alloc (.cells #[.slice a n c, .int .i64 s, .int .i64 e] 25)))
  have D1 := Lib.hid d1
  clear d1 hc
  go_enter Tryd.func25, Tryd.ntmps25
  go_wp2_with (go_at_call 26; refine HF.out.mono ?_; rintro r w' ⟨rfl, hb⟩)
  go_ret
  exact ⟨rfl, D1.out.trans (hb.mono D1.out.size)⟩

set_option maxHeartbeats 1000000 in
theorem aAll_any (sb bm : Nat) (S : List Rw) (w : World) (h : StAt w sb bm S) (hn : S.length ≤ 64) :
    Calls Tryd.prog 8 #[.pointer (some ⟨sb, 0, none⟩)] w fun e w' => ∃ a c L, e = .returned (.slice a L.length c) ∧ Picked w' w.heap.size (.slice a L.length c) L ∧ L.map Rw.al = S.map Rw.al ∧ Below w.heap.size w w' := by
  have HP := Lib.hid (aPick_any sb bm S (fun _ _ => true) 18 #[] (enters_of Tryd.func18 (by kernel_rfl) rfl) w h hn (fun W _ r _ => aAll1_any _ _ _ _ _ W))
  clear h
  go_enter Tryd.func8, Tryd.ntmps8
  go_wp2_with (go_at_call 17; refine HP.out.mono ?_; rintro e w' ⟨v, L, rfl, hL, hm, hb⟩; refine Hid.out ?_)
  refine Lib.hid ?_
  obtain ⟨a, c, rfl, -⟩ := hL.1.form
  have HH := Lib.hid (And.intro hL (And.intro hm hb))
  clear hL hm hb HP
  generalize hk : L.length = k at *
  have HK := Lib.hid hk
  clear hk
  go_wp2
  go_ret
  obtain rfl := HK.out
  obtain ⟨h1, h2, h3⟩ := HH.out
  exact ⟨a, c, L, rfl, h1, by rw [h2, List.filter_eq_self.2 (fun _ _ => rfl)], h3⟩

set_option maxHeartbeats 1000000 in
theorem aFiring_any (sb bm : Nat) (S : List Rw) (now : Int) (w : World) (h : StAt w sb bm S) (hn : S.length ≤ 64) :
    Calls Tryd.prog 13 #[.pointer (some ⟨sb, 0, none⟩), .int .i64 now] w fun e w' => ∃ a c L, e = .returned (.slice a L.length c) ∧ Picked w' w.heap.size (.slice a L.length c) L ∧ L.map Rw.al = (S.filter fun r => firesP r.st r.en now).map Rw.al ∧ Below w.heap.size w w' := by
  have d1 := (Below.refl w.heap.size w).alloc (Nat.le_refl _) (.cells #[.int .i64 now] 3)
  have hc1 : (w.alloc (.cells #[.int .i64 now] 3)).cell? ⟨w.heap.size, 0, none⟩ = some (.int .i64 now) := cellA (newA w _)
  have HP := Lib.hid (aPick_any sb bm S (fun s e => firesP s e now) 25 #[.pointer (some ⟨w.heap.size, 0, none⟩)] (enters_of Tryd.func25 (by kernel_rfl) rfl) (w.alloc (.cells #[.int .i64 now] 3)) (h.below d1 (Nat.le_refl _)) hn (fun W hb r _ => aFiring1_any _ _ _ _ _ now w.heap.size W ((hb.cell (p := ⟨w.heap.size, 0, none⟩) (by simp)).trans hc1) (by have := hb.size; simp at this; omega)))
  have D1 := Lib.hid d1
  clear h d1 hc1
  go_enter Tryd.func13, Tryd.ntmps13
  go_wp2_with (go_at_call 17; refine HP.out.mono ?_; rintro e w' ⟨v, L, rfl, hL, hm, hb⟩; refine Hid.out ?_)
  refine Lib.hid ?_
  obtain ⟨a, c, rfl, -⟩ := hL.1.form
  have HH := Lib.hid (And.intro (hL.base D1.out.size) (And.intro hm (D1.out.trans (hb.mono D1.out.size))))
  clear hL hm hb HP
  generalize hk : L.length = k at *
  have HK := Lib.hid hk
  clear hk
  go_wp2
  go_ret
  obtain rfl := HK.out
  obtain ⟨h1, h2, h3⟩ := HH.out
  exact ⟨a, c, L, rfl, h1, h2, h3⟩

end Go.Proofs.YtdnpfmmkglgnjabDoor
