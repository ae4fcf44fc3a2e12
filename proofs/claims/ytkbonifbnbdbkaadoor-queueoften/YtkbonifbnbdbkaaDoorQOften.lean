/-
  The walk of QueueOften.
-/
import Derived.Test.YtkbonifbnbdbkaaDoorQ12
namespace Go.Proofs.YtkbonifbnbdbkaaDoor
open Go.RowKit Go.Shelf

theorem takeQ_all : ∀ (r : Int) (L : List Itm), (9400 * L.length : Int) ≤ r → (∀ x ∈ L, x.e.Ok ∧ checkEn x.e = 0) → takeQ r L = (L.map (·.e), L.map fun x => ⟨x.e, x.s + 1, x.q⟩)
  | _, [], _, _ => rfl
  | r, x :: l, h, hg => by
    have hx := hg x (by simp)
    have hz := (putEn_lenQ x.e hx.1 hx.2).2.2
    have h' : (9400 * (l.length + 1 : Nat) : Int) ≤ r := h
    rw [takeQ, if_pos (by unfold szE; omega), takeQ_all (r - szE x.e) l (by unfold szE; omega) (fun y hy => hg y (by simp [hy]))]
    rfl
/-- Whether an entry's key is k. -/
def isKE (e : Ent) : Bool := e.k.toList == [107]
def okK (j : Nat) : ByteArray := ⟨#[111, UInt8.ofNat (97 + j)]⟩
theorem okK_ne {i j : Nat} (hi : i < 20) (hj : j < 20) (h : i ≠ j) : sameK (oneE (okK j)) (oneE (okK i)) = false := by
  have : ∀ i : Fin 20, ∀ j : Fin 20, i ≠ j → sameK (oneE (okK j)) (oneE (okK i)) = false := by decide +kernel
  exact this ⟨i, hi⟩ ⟨j, hj⟩ (by simpa using h)
theorem okK_k {j : Nat} (hj : j < 20) : sameK (oneE (okK j)) (oneE ⟨#[107]⟩) = false ∧ isKE (oneE (okK j)) = false := by
  have : ∀ j : Fin 20, sameK (oneE (okK j)) (oneE ⟨#[107]⟩) = false ∧ isKE (oneE (okK j)) = false := by decide +kernel
  exact this ⟨j, hj⟩
/-- The items while the others are pushed. -/
def OthI (i : Nat) (L : List Itm) : Prop := L.length = i ∧ ∀ x ∈ L, x.s = 0 ∧ ∃ j, j < i ∧ x.e = oneE (okK j)
theorem OthI.news {i : Nat} {L : List Itm} (h : OthI i L) (hi : i < 20) : L.any (newsP (oneE (okK i))) = false ∧ (L.filter fun x => !sameK x.e (oneE (okK i))) = L := by
  have hk : ∀ x ∈ L, sameK x.e (oneE (okK i)) = false := fun x hx => by
    obtain ⟨-, j, hj, e⟩ := h.2 x hx
    rw [e]
    exact okK_ne hi (by omega) (by omega)
  refine ⟨List.any_eq_false.2 fun x hx => ?_, List.filter_eq_self.2 fun x hx => ?_⟩
  · unfold newsP
    rw [hk x hx]
    simp
  · rw [hk x hx]
    rfl
theorem OthI.next {i : Nat} {L L1 : List Itm} {p : Int} (h : OthI i L) (hp : L1.Perm (L ++ [⟨oneE (okK i), 0, p⟩])) : OthI (i + 1) L1 := by
  refine ⟨by rw [hp.length_eq, List.length_append, h.1]; rfl, fun x hx => ?_⟩
  rcases List.mem_append.1 (hp.mem_iff.1 hx) with hx | hx
  · obtain ⟨h1, j, hj, e⟩ := h.2 x hx
    exact ⟨h1, j, by omega, e⟩
  · obtain rfl : x = _ := by simpa using hx
    exact ⟨rfl, i, by omega, rfl⟩
/-- The items behind so many calls of Take. -/
def OftJ (n i : Nat) (L : List Itm) : Prop := if i < n then L.length ≤ 20 ∧ (∀ x ∈ L, x.s = (i : Int) ∧ x.e.Ok ∧ checkEn x.e = 0) ∧ L.countP (fun x => isKE x.e) = 1 else L = []
theorem OftJ.start {i n : Nat} {L L1 : List Itm} {p : Int} (h : OthI i L) (hi : i < 20) (hn : 0 < n) (hp : L1.Perm ((L.filter fun x => !sameK x.e (oneE ⟨#[107]⟩)) ++ [⟨oneE ⟨#[107]⟩, 0, p⟩])) : OftJ n 0 L1 ∧ L1.length = i + 1 := by
  have hf : (L.filter fun x => !sameK x.e (oneE ⟨#[107]⟩)) = L := List.filter_eq_self.2 fun x hx => by
    obtain ⟨-, j, hj, e⟩ := h.2 x hx
    rw [e, (okK_k (by omega)).1]
    rfl
  rw [hf] at hp
  have hlen : L1.length = i + 1 := by rw [hp.length_eq, List.length_append, h.1]; rfl
  refine ⟨?_, hlen⟩
  unfold OftJ
  rw [if_pos hn]
  refine ⟨by omega, fun x hx => ?_, ?_⟩
  · rcases List.mem_append.1 (hp.mem_iff.1 hx) with hx | hx
    · obtain ⟨h1, j, hj, e⟩ := h.2 x hx
      have := oneE_ok (okK j) ⟨by show 0 < 2; omega, by show 2 ≤ 1024; omega⟩
      rw [e]
      exact ⟨h1, this.1, this.2⟩
    · obtain rfl : x = _ := by simpa using hx
      have := oneE_ok ⟨#[107]⟩ (by decide)
      exact ⟨rfl, this.1, this.2⟩
  · rw [hp.countP_eq, List.countP_append]
    have h0 : L.countP (fun x => isKE x.e) = 0 := List.countP_eq_zero.2 fun x hx => by
      obtain ⟨-, j, hj, e⟩ := h.2 x hx
      rw [e, (okK_k (by omega)).2]
      simp
    have hk : isKE (oneE ⟨#[107]⟩) = true := by decide +kernel
    rw [h0]
    simp [hk]
theorem OthI.newsK {i : Nat} {L : List Itm} (h : OthI i L) (hi : i < 20) : L.any (newsP (oneE ⟨#[107]⟩)) = false := List.any_eq_false.2 fun x hx => by
  obtain ⟨-, j, hj, e⟩ := h.2 x hx
  unfold newsP
  rw [e, (okK_k (by omega)).1]
  simp
theorem OftJ.good {n i : Nat} {L : List Itm} (h : OftJ n i L) (hi : i ≤ 1000) : ∀ x ∈ L, GoodI x := fun x hx => by
  unfold OftJ at h
  split at h
  · obtain ⟨h1, h2, h3⟩ := h.2.1 x hx
    exact ⟨h2, h3, by omega, by omega⟩
  · subst h
    cases hx
theorem OftJ.len {n i : Nat} {L : List Itm} (h : OftJ n i L) : L.length ≤ 20 := by
  unfold OftJ at h
  split at h
  · exact h.1
  · subst h
    simp
theorem OftJ.next {n i : Nat} {L L1 : List Itm} (h : OftJ n i L) (hp : L1.Perm ((takeQ 1048576 L).2.filter fun x => decide (x.s < (n : Int)))) : OftJ n (i + 1) L1 ∧ (takeQ 1048576 L).1.countP isKE = (if i < n then 1 else 0) ∧ (takeQ 1048576 L).1.length ≤ 20 := by
  have hl := h.len
  have hlen := (takeQ_len 1048576 L).2
  unfold OftJ at h
  split at h
  · rename_i hi
    obtain ⟨h1, h2, h3⟩ := h
    have ht := takeQ_all 1048576 L (by omega) (fun x hx => (h2 x hx).2)
    rw [ht] at hp ⊢
    dsimp only at hp ⊢
    refine ⟨?_, by rw [if_pos hi, List.countP_map]; exact h3, by simpa using h1⟩
    unfold OftJ
    split
    · rename_i hi1
      have hf : ((L.map fun x => (⟨x.e, x.s + 1, x.q⟩ : Itm)).filter fun x => decide (x.s < (n : Int))) = L.map fun x => ⟨x.e, x.s + 1, x.q⟩ := List.filter_eq_self.2 fun x hx => by
        obtain ⟨y, hy, rfl⟩ := List.mem_map.1 hx
        have := (h2 y hy).1
        exact decide_eq_true (by dsimp only; omega)
      rw [hf] at hp
      refine ⟨by rw [hp.length_eq, List.length_map]; exact h1, fun x hx => ?_, by rw [hp.countP_eq, List.countP_map]; exact h3⟩
      obtain ⟨y, hy, rfl⟩ := List.mem_map.1 (hp.mem_iff.1 hx)
      obtain ⟨k1, k2, k3⟩ := h2 y hy
      exact ⟨by dsimp only; omega, k2, k3⟩
    · have hf : ((L.map fun x => (⟨x.e, x.s + 1, x.q⟩ : Itm)).filter fun x => decide (x.s < (n : Int))) = [] := List.filter_eq_nil_iff.2 fun x hx => by
        obtain ⟨y, hy, rfl⟩ := List.mem_map.1 hx
        have := (h2 y hy).1
        simp only [decide_eq_true_eq]
        omega
      rw [hf] at hp
      exact hp.eq_nil
  · rename_i hi
    subst h
    rw [takeQ] at hp ⊢
    have : L1 = [] := by simpa using hp
    subst this
    refine ⟨?_, by rw [if_neg hi]; rfl, by simp⟩
    unfold OftJ
    rw [if_neg (by omega)]
theorem cnt_next (T : List Ent) (j : Nat) (hj : j < T.length) : (T.take (j + 1)).countP isKE = (T.take j).countP isKE + (if isKE T[j] then 1 else 0) := by
  rw [List.take_succ_eq_append_getElem hj, List.countP_append, List.countP_cons, List.countP_nil, Nat.zero_add]
theorem cnt_le (T : List Ent) (j : Nat) : (T.take j).countP isKE ≤ j := Nat.le_trans List.countP_le_length (by rw [List.length_take]; omega)
theorem bytes_okK (B : Nat) (w : World) (k : Nat) (hk : k < 20) (hB : B ≤ w.heap.size) : (convert 29 9 (.slice (some ⟨w.heap.size, 0, none⟩) 2 2)).run Tryd.prog (w.alloc (.cells #[.int .u8 111, .int .u8 ((97 : Int) + (k : Int))] 5)) = .ok (.string (okK k)) (w.alloc (.cells #[.int .u8 111, .int .u8 ((97 : Int) + (k : Int))] 5)) := by
  have e : (UInt8.ofNat (97 + k)).toNat = 97 + k := by rw [UInt8.toNat_ofNat']; omega
  have ho : Own (w.alloc (.cells #[.int .u8 111, .int .u8 ((97 : Int) + (k : Int))] 5)) B (.slice (some ⟨w.heap.size, 0, none⟩) 2 2) [111, UInt8.ofNat (97 + k)] := by
    have h := World.ownsRow_lit (base := B) (e := 5) (size := 1) w #[.int .u8 111, .int .u8 ((97 : Int) + (k : Int))] 2 hB (by unfold maxLen; omega) rfl
    have e2 : (#[Value.int .u8 111, .int .u8 ((97 : Int) + (k : Int))] : Array Value).toList = ([111, UInt8.ofNat (97 + k)] : List UInt8).map fun b => Value.int .u8 b.toNat := by
      simp only [List.map_cons, List.map_nil, e]
      simp
    rw [e2] at h
    exact h
  exact own_stringE ho

set_option maxRecDepth 100000 in
set_option maxHeartbeats 16000000 in
theorem often_walk (lv ov : Nat) (hlv : lv < 256) (hov : ov < 256) (W : World) (hv : TabE W.heap.size W) :
    Calls Tryd.prog 3 #[.int .u8 (lv : Int), .int .u8 (ov : Int)] W fun e w' => e = .returned (.bool true) ∧ Below W.heap.size W w' := by
  have hw1 : IntKind.i64.wrap (lv : Int) = (lv : Int) := by rw [IntKind.wrap_i64]; omega
  have hw2 : IntKind.i64.wrap (ov : Int) = (ov : Int) := by rw [IntKind.wrap_i64]; omega
  obtain ⟨q, hq⟩ : ∃ q, lv % 40 = q := ⟨_, rfl⟩
  have hm1 : Int.tmod (lv : Int) 40 = (q : Int) := by rw [Int.tmod_eq_emod_of_nonneg (by omega)]; omega
  have hm2 : Int.tmod (ov : Int) 20 = ((ov % 20 : Nat) : Int) := by rw [Int.tmod_eq_emod_of_nonneg (by omega)]; omega
  obtain ⟨n, hn⟩ : ∃ n, 1 + q = n := ⟨_, rfl⟩
  obtain ⟨m, hm⟩ : ∃ m, ov % 20 = m := ⟨_, rfl⟩
  have hn1 : 0 < n ∧ n ≤ 40 := by omega
  have hm20 : m < 20 := by omega
  have hw3 : IntKind.i64.wrap (1 + (q : Int)) = (n : Int) := by rw [IntKind.wrap_i64]; omega
  rw [hm] at hm2
  have HN := Lib.hid hn1
  have HV := Lib.hid hv
  have HNw := Lib.hid (qNew_any W.heap.size W (Nat.le_refl _))
  have HOne : Hid (∀ k w, Calls Tryd.prog 9 #[.string k] w fun e w' => e = .returned (.agg #[.string k, .int .i64 1, .int .u16 0, .string ⟨#[]⟩, .int .i64 5]) ∧ Below w.heap.size w w') := Lib.hid qone_any
  clear hn hq hm hlv hov hv hn1
  go_enter Tryd.func3, Tryd.ntmps3
  go_wp2_with (go_at_call 7; refine HNw.out.mono ?_; rintro e w1 ⟨sb, rfl, h1, -⟩; replace h1 := Lib.hid h1; refine Hid.out ?_)
  refine Lib.hid ?_
  clear hw1 hw3 hm1
  go_wp2
  go_loopw [7] (fun v7 wr => ∃ (k : Nat) (L : List Itm), k ≤ m ∧ v7 = .int .i64 k ∧ Hid (OthI k L ∧ QW W.heap.size W wr sb L k 0)) (fun v7 _ => m - (intOf v7).toNat)
  case atStart => exact ⟨0, [], Nat.zero_le _, rfl, Lib.hid ⟨⟨rfl, fun x hx => by cases hx⟩, h1.out⟩⟩
  case round =>
    clear h1 HNw
    obtain ⟨k, L, hkm, rfl, HM⟩ := hrel
    by_cases hlt : k < m
    · have hkl : (k : Int) < (m : Int) := by omega
      have hw4 : IntKind.i64.wrap (97 + (k : Int)) = 97 + (k : Int) := by rw [IntKind.wrap_i64]; omega
      have hw5 : IntKind.u8.wrap (97 + (k : Int)) = 97 + (k : Int) := by simp [IntKind.wrap, IntKind.bits, IntKind.signed]; omega
      have hcv := bytes_okK 0 wr k (by omega) (Nat.zero_le _)
      have hq : QW W.heap.size W (wr.alloc (.cells #[.int .u8 111, .int .u8 ((97 : Int) + (k : Int))] 5)) sb L k 0 := HM.out.2.on ((Below.refl wr.heap.size wr).alloc (Nat.le_refl _) _)
      have HQ := Lib.hid hq
      obtain ⟨hnews, hfil⟩ := HM.out.1.news (by omega)
      have HPu : Hid (∀ w, QW W.heap.size W w sb L k 0 → Calls Tryd.prog 8 #[.pointer (some ⟨sb, 0, none⟩), .agg #[.string (okK k), .int .i64 1, .int .u16 0, .string ⟨#[]⟩, .int .i64 5]] w fun r w' => r = .returned (.bool true) ∧ ∃ L1, OthI (k + 1) L1 ∧ QW W.heap.size W w' sb L1 ((k : Int) + 1) 0) :=
        Lib.hid (fun w h => (pushB_yes W.heap.size sb W L k 0 (oneE (okK k)) w h (by have := HM.out.1.1; omega) (by omega) (by omega) (oneE_ok (okK k) ⟨by show 0 < 2; omega, by show 2 ≤ 1024; omega⟩).2 hnews).mono fun r w' ⟨hr, ⟨L1, k1, _, k3⟩, _⟩ => by
          rw [hfil] at k1
          have ho := HM.out.1.next k1
          have hl1 : ¬ 32 < L1.length := by have := ho.1; omega
          rw [if_neg hl1, List.take_of_length_le (by omega)] at k3
          exact ⟨hr, L1, ho, by simpa using k3⟩)
      clear hq HM hnews hfil
      go_wp2_with (go_at_call 9; refine (HOne.out _ _).mono ?_; rintro e w2 ⟨rfl, q2⟩; replace q2 := Lib.hid q2; refine Hid.out ?_)
      refine Lib.hid ?_
      have HP2 := Lib.hid (HPu.out w2 (HQ.out.on q2.out))
      clear hcv hw4 hw5 HPu HQ q2
      go_wp2_with (go_at_call 8; refine HP2.out.mono ?_; rintro e w3 ⟨rfl, L1, o3, h3⟩; replace o3 := Lib.hid o3; replace h3 := Lib.hid h3; refine Hid.out ?_)
      refine Lib.hid ?_
      clear HP2
      go_wp2
      go_roundw
      case rel => exact ⟨k + 1, L1, by omega, by go_num, Lib.hid ⟨o3.out, by have := h3.out; exact_mod_cast this⟩⟩
      case measure => simp [intOf]; omega
    · have hkl : ¬ (k : Int) < (m : Int) := by omega
      obtain rfl : k = m := by omega
      have HPu : Hid (∀ w, QW W.heap.size W w sb L k 0 → Calls Tryd.prog 8 #[.pointer (some ⟨sb, 0, none⟩), .agg #[.string ⟨#[107]⟩, .int .i64 1, .int .u16 0, .string ⟨#[]⟩, .int .i64 5]] w fun r w' => r = .returned (.bool true) ∧ ∃ L1, OftJ n 0 L1 ∧ QW W.heap.size W w' sb L1 ((k : Int) + 1) 0) :=
        Lib.hid (fun w h => (pushB_yes W.heap.size sb W L k 0 (oneE ⟨#[107]⟩) w h (by have := HM.out.1.1; omega) (by omega) (by omega) (oneE_ok ⟨#[107]⟩ (by decide)).2 (HM.out.1.newsK (by omega))).mono fun r w' ⟨hr, ⟨L1, k1, _, k3⟩, _⟩ => by
          have ho := OftJ.start HM.out.1 (by omega) HN.out.1 k1
          have hl1 : ¬ 32 < L1.length := by have := ho.2; omega
          rw [if_neg hl1, List.take_of_length_le (by omega)] at k3
          exact ⟨hr, L1, ho.1, by simpa using k3⟩)
      have HQ := Lib.hid HM.out.2
      clear HM
      go_wp2_with (go_at_call 9; refine (HOne.out _ _).mono ?_; rintro e w2 ⟨rfl, q2⟩; replace q2 := Lib.hid q2; refine Hid.out ?_)
      refine Lib.hid ?_
      have HP2 := Lib.hid (HPu.out w2 (HQ.out.on q2.out))
      clear HPu HQ q2
      go_wp2_with (go_at_call 8; refine HP2.out.mono ?_; rintro e w3 ⟨rfl, L1, o3, h3⟩; replace o3 := Lib.hid o3; replace h3 := Lib.hid h3; refine Hid.out ?_)
      refine Lib.hid ?_
      clear HP2
      have hw5 : IntKind.i64.wrap ((n : Int) + 5) = ((n + 5 : Nat) : Int) := by have := HN.out; rw [IntKind.wrap_i64]; omega
      have HI0 : Hid (OftJ n 0 L1 ∧ QW W.heap.size W w3 sb L1 ((k : Int) + 1) 0) := Lib.hid ⟨o3.out, h3.out⟩
      clear o3 h3 hkl hlt hkm
      go_wp2
      go_loopw [8, 9] (fun v8 v9 wr => ∃ (i t : Nat) (L : List Itm), i ≤ n + 5 ∧ v8 = .int .i64 t ∧ v9 = .int .i64 i ∧ Hid (t = min i n) ∧ Hid (OftJ n i L ∧ QW W.heap.size W wr sb L ((k : Int) + 1) 0)) (fun _ v9 _ => n + 5 - (intOf v9).toNat)
      case atStart => exact ⟨0, 0, L1, Nat.zero_le _, rfl, rfl, Lib.hid (by omega), HI0⟩
      case round =>
        clear HI0
        obtain ⟨i, t, L, hin, rfl, rfl, Ht, HM⟩ := hrel
        by_cases hlt : i < n + 5
        · have hil : (i : Int) < ((n + 5 : Nat) : Int) := by omega
          have HTk : Hid (Calls Tryd.prog 10 #[.pointer (some ⟨sb, 0, none⟩), .int .i64 1048576, .int .i64 n] wr fun e w' => ∃ (a : Option Addr) (c : Nat) (T : List Ent) (nT : Nat) (L' : List Itm), e = .returned (.slice a nT c) ∧ nT = T.length ∧ EntsAt w' a T ∧ nT ≤ 20 ∧ T.countP isKE = (if i < n then 1 else 0) ∧ OftJ n (i + 1) L' ∧ QW W.heap.size W w' sb L' ((k : Int) + 1) 0) :=
            Lib.hid ((takeB W.heap.size sb W L ((k : Int) + 1) 0 1048576 n wr HM.out.2 W.heap.size (Nat.le_refl _) HV.out (by have := HM.out.1.len; omega) (HM.out.1.good (by have := HN.out; omega)) (by omega)).mono fun e w' ⟨⟨a, c, he, hat⟩, ⟨L', k1, _, k3⟩, _⟩ => by
              obtain ⟨j1, j2, j3⟩ := HM.out.1.next k1
              exact ⟨a, c, _, _, L', he, rfl, hat, j3, j2, j1, k3⟩)
          have Ht2 : Hid (t + (if i < n then 1 else 0) = min (i + 1) n) := Lib.hid (by have := Ht.out; split <;> omega)
          have ht45 : t ≤ 45 := by have := Ht.out; have := HN.out; omega
          have hn40 : n ≤ 40 := HN.out.2
          clear HM Ht
          generalize (if i < n then 1 else 0) = z at *
          go_wp2_with (go_at_call 10; refine HTk.out.mono ?_; rintro e w4 ⟨a, c, T, nT, L', rfl, h4⟩; replace h4 := Lib.hid h4; refine Hid.out ?_)
          refine Lib.hid ?_
          obtain ⟨hnT, hat, h20, hcnt, hJ, hQ⟩ := h4.out
          replace hnT := Lib.hid hnT; replace hat := Lib.hid hat; replace hcnt := Lib.hid hcnt; replace hJ := Lib.hid hJ; replace hQ := Lib.hid hQ
          clear h4
          clear HTk
          go_wp2
          go_loopw [8, 11] (fun v8 v11 wi => ∃ (j u : Nat), j ≤ nT ∧ u ≤ t + j ∧ v8 = .int .i64 u ∧ v11 = .int .i64 j ∧ wi = w4 ∧ Hid (u = t + (T.take j).countP isKE)) (fun _ v11 _ => nT - (intOf v11).toNat)
          case atStart => exact ⟨0, t, Nat.zero_le _, Nat.le_refl _, rfl, rfl, rfl, Lib.hid (by simp)⟩
          case round =>
            obtain ⟨j, u, hjn, hut, rfl, rfl, hwi, Hu⟩ := hrel
            subst hwi
            by_cases hj : j < nT
            · have hjl : (j : Int) < (nT : Int) := by omega
              have hjT : j < T.length := by have := hnT.out; omega
              obtain ⟨b, o, rfl, -, c0, -⟩ := hat.out.cells j hjT
              have HC := Lib.hid (cnt_next T j hjT)
              have hb : (T[j].k.toList == [107]) = isKE T[j] := rfl
              generalize T[j] = x at *
              cases hk : isKE x with
              | true =>
                rw [hk] at hb HC
                have Hu2 : Hid (u + 1 = t + (T.take (j + 1)).countP isKE) := Lib.hid (by rw [HC.out, Hu.out, if_pos rfl]; omega)
                clear HC Hu hk hjT
                go_wp2
                go_roundw
                case rel => exact ⟨j + 1, u + 1, by omega, by omega, by go_num, by go_num, trivial, Hu2⟩
                case measure => simp [intOf]; omega
              | false =>
                rw [hk] at hb HC
                have Hu2 : Hid (u = t + (T.take (j + 1)).countP isKE) := Lib.hid (by rw [HC.out, Hu.out]; simp)
                clear HC Hu hk hjT
                go_wp2
                go_roundw
                case rel => exact ⟨j + 1, u, by omega, by omega, rfl, by go_num, trivial, Hu2⟩
                case measure => simp [intOf]; omega
            · have hjl : ¬ (j : Int) < (nT : Int) := by omega
              have hjT : j = T.length := by have := hnT.out; omega
              have Hu2 : Hid (u = min (i + 1) n) := Lib.hid (by rw [Hu.out, hjT, List.take_length, hcnt.out, Ht2.out])
              clear Hu hjT
              go_wp2
              go_roundw
              case rel => exact ⟨i + 1, u, L', by omega, rfl, by go_num, Hu2, Lib.hid ⟨hJ.out, hQ.out⟩⟩
              case measure => simp [intOf]; omega
        · have hil : ¬ (i : Int) < ((n + 5 : Nat) : Int) := by omega
          have htn : t = n := by have := Ht.out; omega
          subst htn
          have hL0 : L = [] := by
            have := HM.out.1
            unfold OftJ at this
            rw [if_neg (by omega)] at this
            exact this
          subst hL0
          have HLn := Lib.hid (lenB W.heap.size sb W [] ((k : Int) + 1) 0 wr HM.out.2)
          have HLo := Lib.hid (lostB W.heap.size sb W [] ((k : Int) + 1) 0 wr HM.out.2)
          have HA := Lib.hid (qawake_any W.heap.size wr HM.out.2.2.2.1.size (HV.out.on HM.out.2.2.2.1))
          have HB := Lib.hid HM.out.2.2.2.1
          clear HM
          go_wp2_with (first | (go_at_call 11; refine HLn.out.mono ?_; rintro e w9 ⟨rfl, hw⟩; have hw' := hw.symm; clear hw; subst hw') | (go_at_call 12; refine HLo.out.mono ?_; rintro e w10 ⟨rfl, hw⟩; have hw' := hw.symm; clear hw; subst hw') | (go_at_call 13; refine HA.out.mono ?_; rintro e w11 ⟨rfl, q11⟩))
          go_ret
          exact ⟨rfl, HB.out.trans q11⟩

end Go.Proofs.YtkbonifbnbdbkaaDoor
