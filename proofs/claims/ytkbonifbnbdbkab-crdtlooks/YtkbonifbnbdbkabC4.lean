/-
  The keys of a map in their order (slices.Sorted of maps.Keys); entries in a row of a call's own; what byKeys and List of package crdt tell.
-/
import Derived.Test.YtkbonifbnbdbkabC3
import Derived.Test.YtkbonifbnbdbkabCShelf
import Derived.Sort.OwnSorted
import Derived.Deep.AppendLies
namespace Go.Proofs.Ytkbonifbnbdbkab
open Go.RowKit Go.Maps Go.Sort Go.Shelf

theorem csorts (m : Nat) : AnyZ.SortsIn Try.prog Try.lSorted_ren Fence.wide m :=
  ⟨fun blk off cap ss W hH hblk hsz => callsIn_wide.2 (AnyM.slices_Sort_string Try.lSortS blk off cap ss W hH hblk hsz),
   fun p cap W => callsIn_wide.2 (AnyM.slices_Sort_string_none Try.lSortS p cap W)⟩
theorem cKeys_any (mb : Option Nat) (w : World) : Calls Try.prog 43 #[.map mb] w fun e w' => e = .returned (.func (.func 49) #[] #[.pointer (some ⟨w.heap.size, 0, none⟩)]) ∧ w' = w.alloc (.cells #[.map mb] 52) :=
  (callsIn_wide (n := 5)).1 (AnyZ.keys_in Try.lKeys Fence.wide 5 trivial rfl mb w)

theorem sort_risingC {S : List Ent} (h : RisingC S) {ss : List (List UInt8)} (hp : ss.Perm (S.map Ent.key)) : ss.mergeSort (fun x y => decide (x ≤ y)) = S.map Ent.key := by
  have e : ss.mergeSort leB = (S.map Ent.key).mergeSort leB := mergeSort_of_perm hp
  show ss.mergeSort leB = _
  rw [e]
  refine List.mergeSort_of_pairwise ?_
  rw [List.pairwise_map]
  exact h.imp fun {x y} hxy => by
    simp only [leB, decide_eq_true_eq]
    exact List.le_of_lt hxy

set_option maxHeartbeats 1000000 in
/-- The keys of a map, in their order. -/
theorem cSorted_any (bm : Nat) (S : List Ent) (w : World) (hm : CMap w bm S) (hn : S.length ≤ 1048576) (Bm : Nat) (hB : Bm < w.heap.size) (hc : w.cell? ⟨Bm, 0, none⟩ = some (.map (some bm))) :
    Calls Try.prog 42 #[.func (.func 49) #[] #[.pointer (some ⟨Bm, 0, none⟩)]] w fun e w' => ∃ v, e = .returned v ∧ w'.ownsRow w.heap.size 9 1 v S.length ((S.map Ent.key).map encStr) ∧ Below w.heap.size w w' := by
  have hseq : SeqGives Fence.wide 2 Try.prog 49 #[.pointer (some ⟨Bm, 0, none⟩)] encStr (fun ss => ss.Perm (strKeys (datumC S))) (Maps.size (datumC S)) w :=
    AnyZ.keys_gives (ρ := Try.lKeys_ren) { Try.lKeys with } Fence.wide _ trivial rfl (by omega) Bm bm S.length (datumC S) w hB hc hm
  have cS := AnyZ.sorted_in Try.lSorted Fence.wide 5 trivial trivial trivial trivial rfl (by omega) (csorts _) (enters_of Try.func48 (by kernel_rfl) rfl) 49 #[.pointer (some ⟨Bm, 0, none⟩)] trivial (enters_of Try.func49 (by kernel_rfl) rfl) _ _ (by rw [datumC_size]; unfold maxLen; omega) (by rw [datumC_size]; omega) _ hseq
  refine ((callsIn_wide (n := 5)).1 cS).mono ?_
  rintro e w' ⟨v, ss, rfl, hp, hrow, -, hb⟩
  rw [datumC_keys] at hp
  rw [sort_risingC hm.rising hp, hp.length_eq, List.length_map] at hrow
  exact ⟨v, rfl, hrow, hb⟩

/-- A row of keys. -/
theorem keysRowC {w : World} {B : Nat} {v : Value} {S : List Ent} (h : w.ownsRow B 9 1 v S.length ((S.map Ent.key).map encStr)) :
    ∃ ak ck, v = .slice ak S.length ck ∧ ∀ i (hi : i < S.length), ∃ g, ak = some ⟨g, 0, none⟩ ∧ g < w.heap.size ∧ w.cell? ⟨g, i, none⟩ = some (.string S[i].k) := by
  rcases h.2 with ⟨rfl, h0⟩ | ⟨g, cap, cur, rfl, hg0, hg1, hcap, hmax, hcs, htk⟩
  · exact ⟨none, 0, by rw [h0], fun i hi => by omega⟩
  · refine ⟨_, _, rfl, fun i hi => ⟨g, rfl, ltE hg1, ?_⟩⟩
    have := World.ownsRow.cellAt h i (by omega)
    rw [this]
    simp [hi, encStr, Ent.key]

/-- The cells of entries. -/
def cellsC (L : List Ent) : List Value := L.flatMap encE
theorem cellsC_len : ∀ L : List Ent, (cellsC L).length = L.length * 5
  | [] => rfl
  | p :: r => by
    have := cellsC_len r
    simp only [cellsC, List.flatMap_cons, List.length_append, List.length_cons] at *
    rw [this]
    simp [encE]
    omega
theorem cellsC_append (L M : List Ent) : cellsC (L ++ M) = cellsC L ++ cellsC M := List.flatMap_append
theorem cellsC_get : ∀ (L : List Ent) (i : Nat) (hi : i < L.length) (j : Nat) (v : Value), (encE L[i])[j]? = some v → (cellsC L)[i * 5 + j]? = some v
  | p :: r, 0, _, j, v, hv => by
    have e : cellsC (p :: r) = encE p ++ cellsC r := rfl
    have hv' : (encE p)[j]? = some v := hv
    have hj := (List.getElem?_eq_some_iff.1 hv').1
    rw [e, Nat.zero_mul, Nat.zero_add, List.getElem?_append_left hj]
    exact hv'
  | p :: r, i + 1, hi, j, v, hv => by
    have := cellsC_get r i (by simpa using hi) j v hv
    have e : cellsC (p :: r) = encE p ++ cellsC r := rfl
    have l : (encE p).length = 5 := rfl
    rw [e, List.getElem?_append_right (by omega), l, show (i + 1) * 5 + j - 5 = i * 5 + j by omega]
    exact this
/-- A slice of entries in blocks from B on. -/
def OwnC (w : World) (B : Nat) (v : Value) (L : List Ent) : Prop := w.ownsRow B 36 5 v L.length (cellsC L)
theorem infoEn : (Try.prog.info? 36).map (fun i => (i.zero, i.size, i.bytes)) = some (some (.agg #[.string ⟨#[]⟩, .int .i64 0, .int .u16 0, .string ⟨#[]⟩, .int .i64 0]), 5, 56) := by kernel_rfl
theorem baseC {W : World} {base base' : Nat} {e : TypeId} {size : Nat} {v : Value} {k : Nat} {xs : List Value} (h : W.ownsRow base e size v k xs) (hb : base' ≤ base) : W.ownsRow base' e size v k xs := by
  refine ⟨h.1, ?_⟩
  rcases h.2 with hn | ⟨g, cap, cur, hv, hbg, rest⟩
  · exact .inl hn
  · exact .inr ⟨g, cap, cur, hv, Nat.le_trans hb hbg, rest⟩
theorem OwnC.base {w : World} {B B' : Nat} {v : Value} {L : List Ent} (h : OwnC w B v L) (hb : B' ≤ B) : OwnC w B' v L := baseC h hb
theorem OwnC.onB {w w' : World} {B N : Nat} {v : Value} {L : List Ent} (h : OwnC w B v L) (hb : Below N w w') (hN : w.heap.size ≤ N) : OwnC w' B v L :=
  World.ownsRow.kept h (gOfC (hb.mono hN) none) (by cases hv : v.ownBlock <;> simp)
theorem OwnC.on {w w' : World} {B : Nat} {v : Value} {L : List Ent} (h : OwnC w B v L) (hb : Below w.heap.size w w') : OwnC w' B v L := h.onB hb (Nat.le_refl _)
theorem OwnC.push {w : World} {B : Nat} {v : Value} {L : List Ent} {r : Ent} (h : w.ownsRow B 36 5 v (L.length + 1) (cellsC L ++ encE r)) : OwnC w B v (L ++ [r]) := by
  unfold OwnC
  rw [cellsC_append, List.length_append]
  simpa [cellsC] using h
theorem OwnC.form {w : World} {B : Nat} {v : Value} {L : List Ent} (h : OwnC w B v L) : ∃ a c, v = .slice a L.length c ∧ (a = none → c = 0) ∧ (∀ q, a = some q → B ≤ q.block ∧ q.block < w.heap.size ∧ q = ⟨q.block, 0, none⟩) ∧ EntsAt w a L := by
  rcases h.2 with ⟨rfl, h0⟩ | ⟨g, cap, cur, rfl, hg0, hg1, hcap, hmax, hcs, htk⟩
  · exact ⟨none, 0, by rw [h0], fun _ => rfl, (fun q e => by cases e), fun hn => by omega⟩
  · refine ⟨_, _, rfl, (fun e => by cases e), (fun q e => by obtain rfl := Option.some.inj e; exact ⟨hg0, ltE hg1, rfl⟩), fun hn => ⟨g, 0, rfl, ltE hg1, fun i hi j v hv => ?_⟩⟩
    have hj := (List.getElem?_eq_some_iff.1 hv).1
    have l5 : (encE L[i]).length = 5 := rfl
    rw [Nat.zero_add, World.ownsRow.cellAt h _ (by omega)]
    exact cellsC_get L i hi j v hv

set_option maxRecDepth 100000 in
set_option maxHeartbeats 4000000 in
/-- The entries of a map by rising keys. -/
theorem cByKeys_any (bm : Nat) (S : List Ent) (w : World) (hm : CMap w bm S) (hk : ∀ r ∈ S, checkEn r = 0) (hn : S.length ≤ 256) :
    Calls Try.prog 31 #[.map (some bm)] w fun e w' => ∃ v, e = .returned v ∧ OwnC w' w.heap.size v S ∧ Below w.heap.size w w' := by
  obtain ⟨i0, hi, hi0, hi1, hi2⟩ := info_parts infoEn
  have d1 := (Below.refl w.heap.size w).alloc (Nat.le_refl _) (.cells #[.map (some bm)] 52)
  have HS := Lib.hid (cSorted_any bm S (w.alloc (.cells #[.map (some bm)] 52)) (hm.below d1 hm.lt) (by omega) w.heap.size (by simp) (cellE (newE w _)))
  have HK := Lib.hid (cKeys_any (some bm))
  have s1 : (w.alloc (.cells #[.map (some bm)] 52)).heap.size = w.heap.size + 1 := by simp
  have HH := Lib.hid (And.intro hm (And.intro hk (And.intro d1 s1)))
  clear hm hk d1 s1
  go_enter Try.func31, Try.ntmps31
  go_wp2_with (first
    | (go_at_call 43; refine (HK.out _).mono ?_; rintro e w1 ⟨rfl, rfl⟩)
    | (go_at_call 42; refine HS.out.mono ?_; rintro e wK ⟨v, rfl, hrow, hbK⟩; refine Hid.out ?_))
  refine Lib.hid ?_
  obtain ⟨hm, hk, d1, s1⟩ := HH.out
  obtain ⟨ak, ck, rfl, hks⟩ := keysRowC hrow
  have bK := d1.trans (hbK.mono (by omega))
  have HKS := Lib.hid hks
  have HBK := Lib.hid (And.intro hm (And.intro hk bK))
  clear hks hrow hbK bK d1 s1 hm hk HH HS HK
  go_wp2
  go_loopw [3, 10] (fun v i wr => ∃ (k : Nat) (a5 : Option Addr) (n5 c5 : Nat), k ≤ S.length ∧ i = .int .i64 k ∧ v = .slice a5 n5 c5 ∧ Hid (OwnC wr wK.heap.size (.slice a5 n5 c5) (S.take k)) ∧ Hid (Below wK.heap.size wK wr)) (fun _ i _ => S.length - (intOf i).toNat)
  case atStart => exact ⟨0, none, 0, 0, Nat.zero_le _, rfl, rfl, Lib.hid (World.ownsRow_nil _ _ _ _), Lib.hid (Below.refl _ _)⟩
  case round =>
    obtain ⟨k, a5, n5, c5, hkn, rfl, rfl, HL, HB⟩ := hrel
    by_cases hlt : k < S.length
    · have hkl : (k : Int) < (S.length : Int) := by omega
      obtain ⟨gk, rfl, hgk, hck⟩ := HKS.out k hlt
      obtain ⟨hm, hk, bK⟩ := HBK.out
      have br := bK.trans (HB.out.mono bK.size)
      have hr := hm.below br hm.lt
      have hx : S[k] ∈ S := List.getElem_mem hlt
      have hck2 : wr.cell? ⟨gk, k, none⟩ = some (.string S[k].k) := (HB.out.cell (p := ⟨gk, k, none⟩) hgk).trans hck
      have hl := hr.look_yes hx (key_fits (hk _ hx)) false
      have HT : Hid (S.take (k + 1) = S.take k ++ [S[k]]) := Lib.hid (List.take_succ_eq_append_getElem hlt)
      have hown3 := HL.out
      have hln : (S.take k).length = k := by rw [List.length_take]; omega
      obtain ⟨L, hL⟩ : ∃ L, L = S.take k := ⟨_, rfl⟩
      rw [← hL] at hown3 hln HT
      have hwK : wK.heap.size ≤ wr.heap.size := HB.out.size
      generalize S[k] = r0 at *
      clear hck hm hk br hr hx hL HL
      have hl' : (Instr.lookup 52 (.map (some bm)) (.string r0.k) false).run Try.prog wr = .ok (.agg #[.string r0.k, .int .i64 r0.t, .int .u16 r0.o, .string r0.v, .int .i64 r0.u]) wr := hl
      clear hl
      have hLk : L.length ≤ 256 := by omega
      have HLN := Lib.hid hln
      clear hln
      go_wp2_with (at_builtin; refine wpList_append_own _ rfl _ _ 22 rfl wK.heap.size 36 i0 _ 5 56 Try.underlying22 hi hi0 hi1 hi2 rfl (by decide) _ _ _ rfl (World.ownsRow.alloc hown3 _) ⟨_, 0, none⟩ 1 1 [.string r0.k, .int .i64 r0.t, .int .u16 r0.o, .string r0.v, .int .i64 r0.u] rfl rfl (World.news_of_block (cs := #[.string r0.k, .int .i64 r0.t, .int .u16 r0.o, .string r0.v, .int .i64 r0.u]) (newE _ _)) (by intro u' hu'; simp at hu'; rcases hu' with rfl | rfl | rfl | rfl | rfl <;> rfl) (by unfold maxLen; omega) (by omega) (by simp; omega) ?_; refine Hid.out ?_)
      refine Lib.hid ?_
      intro v5 w5 hown5 hg5 _
      have hA5 : OwnC w5 wK.heap.size v5 (S.take (k + 1)) := by rw [HT.out]; exact OwnC.push hown5
      obtain ⟨a6, c6, rfl, -, -, -⟩ := hA5.form
      have HB5 : Hid (Below wK.heap.size wK w5) := Lib.hid ((HB.out.alloc HB.out.size _).grown hg5 (by simp; omega) (fun j hj => (World.ownsRow.lt hown3 j hj).1))
      have HL5 := Lib.hid hA5
      clear hA5 hown5 hg5 hown3 hwK HB hl' hck2
      generalize (S.take (k + 1)).length = n6 at *
      go_wp2
      go_roundw
      case rel => exact ⟨k + 1, _, _, _, by omega, by go_num, rfl, HL5, HB5⟩
      case measure => simp [intOf]; omega
    · have hkl : ¬ (k : Int) < (S.length : Int) := by omega
      have HF : Hid (OwnC wr w.heap.size (.slice a5 n5 c5) S ∧ Below w.heap.size w wr) := Lib.hid (by
        have e : S.take k = S := List.take_of_length_le (by omega)
        have h1 := HL.out
        rw [e] at h1
        obtain ⟨-, -, bK⟩ := HBK.out
        exact ⟨h1.base bK.size, bK.trans (HB.out.mono bK.size)⟩)
      clear HL HB HBK HKS
      go_wp2
      go_ret
      exact ⟨_, rfl, HF.out.1, HF.out.2⟩

set_option maxHeartbeats 1000000 in
theorem cList_any (sb bm : Nat) (S : List Ent) (w : World) (h : CAt w sb bm S) :
    Calls Try.prog 23 #[.pointer (some ⟨sb, 0, none⟩)] w fun e w' => ∃ v, e = .returned v ∧ OwnC w' w.heap.size v S ∧ Below w.heap.size w w' := by
  have c0 := h.1.c0
  have HK := Lib.hid (cByKeys_any bm S w h.2.1 h.2.2.1 h.2.2.2)
  clear h
  go_enter Try.func23, Try.ntmps23
  go_wp2_with (go_at_call 31; refine HK.out.mono ?_; rintro e w2 ⟨v, rfl, ho, q⟩; refine Hid.out ?_)
  refine Lib.hid ?_
  have HF := Lib.hid (And.intro ho q)
  clear ho q
  go_wp2
  go_ret
  exact ⟨_, rfl, HF.out.1, HF.out.2⟩

end Go.Proofs.Ytkbonifbnbdbkab
