/-
  Silences, plainly: which error one has, its entry, and how it is read from its entry. A silence in memory; what Check of package silence tells. A slice of slices of bytes that a call grows.
-/
import Derived.Test.YtcngifkoopcmeaaGreatDoorK14
import Derived.Test.YtcngifkoopcmeaaGreatDoorK19
import Derived.Test.YtcngifkoopcmeaaGreatDoorK20
import Derived.Maps.AppendAt
import Derived.Lib.SlBytesConst
import Derived.Shelf.Bytes.SlSmallAll
namespace Go.Proofs.YtcngifkoopcmeaaGreatDoor
open Go.RowKit

/-- A silence. -/
structure Sil where
  id : ByteArray
  ms : List Mt
  st : Int
  en : Int
def zeroS : Sil := ⟨⟨#[]⟩, [], 0, 0⟩
/-- Which error a silence has. -/
def silE (s : Sil) : Int := if ¬ NameOk s.id then 6 else if checkAllE s.ms ≠ 0 then checkAllE s.ms else if s.ms.length = 0 then 2 else if s.st < 0 ∨ s.en < s.st ∨ 1099511627776 < s.en then 13 else 0
/-- The parts of a matcher, and of a silence. -/
def partsM (m : Mt) : List (List UInt8) := [putText m.1.data.toList, putInt m.2.1, putText m.2.2.data.toList]
def partsMs (ms : List Mt) : List (List UInt8) := (ms.map partsM).flatten
def partsS (ms : List Mt) (st en : Int) : List (List UInt8) := partsMs ms ++ [putInt st, putInt en]
def layS (ms : List Mt) (st en : Int) : List UInt8 := putList (partsS ms st en)
/-- The key of a silence. -/
def keyS (id : ByteArray) : ByteArray := ⟨#[115]⟩ ++ id
/-- The entry of a silence. -/
def entS (s : Sil) (t o : Int) : Ent := ⟨keyS s.id, t, o, ⟨(layS s.ms s.st s.en).toArray⟩, max s.en t⟩
/-- Which error Entry tells. -/
def entryE (s : Sil) (t : Int) : Int := if silE s ≠ 0 then silE s else if t < 0 ∨ 1099511627776 < t then 13 else 0

/-- What a reader makes of a matcher: what is left, the error, the matcher. -/
def rdMt (l : List UInt8) : List UInt8 × Int × Mt :=
  ((textE 64 (intE (textE 16 0 l).2.1 (textE 16 0 l).1).2.1 (intE (textE 16 0 l).2.1 (textE 16 0 l).1).1).1, (textE 64 (intE (textE 16 0 l).2.1 (textE 16 0 l).1).2.1 (intE (textE 16 0 l).2.1 (textE 16 0 l).1).1).2.1,
    ⟨(textE 16 0 l).2.2.toArray⟩, ((intE (textE 16 0 l).2.1 (textE 16 0 l).1).2.2 % 256).toNat, ⟨(textE 64 (intE (textE 16 0 l).2.1 (textE 16 0 l).1).2.1 (intE (textE 16 0 l).2.1 (textE 16 0 l).1).1).2.2.toArray⟩)
theorem rdMt_of {l l1 l2 l3 s1 s3 : List UInt8} {e1 e2 e3 n : Int} (h1 : textE 16 0 l = (l1, e1, s1)) (h2 : intE e1 l1 = (l2, e2, n)) (h3 : textE 64 e2 l2 = (l3, e3, s3)) : rdMt l = (l3, e3, ⟨s1.toArray⟩, (n % 256).toNat, ⟨s3.toArray⟩) := by
  simp [rdMt, h1, h2, h3]
/-- Whether one more matcher stands there. -/
def isM (l : List UInt8) : Bool := moreB l && l.head? != some 105
/-- What the reader's matchers are: the matchers, what is left, the error. -/
def rdMs : Nat → Int → List UInt8 → List Mt × List UInt8 × Int
  | 0, e, l => ([], l, e)
  | f + 1, e, l => if isM l then (if (rdMt l).2.1 = 0 then ((rdMt l).2.2 :: (rdMs f 0 (rdMt l).1).1, (rdMs f 0 (rdMt l).1).2) else ([], (rdMt l).1, (rdMt l).2.1)) else ([], l, e)
/-- What is read as a value. -/
def readS (v : List UInt8) : List Mt × Int × Int :=
  ((rdMs v.length (byteE 108 0 v).2 (byteE 108 0 v).1).1, (intE (rdMs v.length (byteE 108 0 v).2 (byteE 108 0 v).1).2.2 (rdMs v.length (byteE 108 0 v).2 (byteE 108 0 v).1).2.1).2.2,
    (intE (intE (rdMs v.length (byteE 108 0 v).2 (byteE 108 0 v).1).2.2 (rdMs v.length (byteE 108 0 v).2 (byteE 108 0 v).1).2.1).2.1 (intE (rdMs v.length (byteE 108 0 v).2 (byteE 108 0 v).1).2.2 (rdMs v.length (byteE 108 0 v).2 (byteE 108 0 v).1).2.1).1).2.2)
theorem readS_of {v l0 l1 l2 l3 : List UInt8} {e0 e1 e2 e3 a b : Int} {ms : List Mt} (h0 : byteE 108 0 v = (l0, e0)) (h1 : rdMs v.length e0 l0 = (ms, l1, e1)) (h2 : intE e1 l1 = (l2, e2, a)) (h3 : intE e2 l2 = (l3, e3, b)) : readS v = (ms, a, b) := by
  simp [readS, h0, h1, h2, h3]

theorem isM_cons {l : List UInt8} (h : isM l = true) : 0 < l.length := by
  cases l with
  | nil => simp [isM, moreB] at h
  | cons x l => simp
/-- What was read is shorter. -/
theorem textE_less {most : Int} {l l1 s : List UInt8} {e : Int} (h : textE most 0 l = (l1, e, s)) (hl : 0 < l.length) : l1.length < l.length := by
  by_cases he : e = 0
  · subst he
    have h' : rdText most l = (l1, 0, s) := h
    have := rdText_laid h'
    have hd := dec_ne s.length
    have hp : 0 < (Lib.itoa (s.length : Int)).length := by
      unfold Lib.itoa
      rw [if_neg (by omega), Int.toNat_natCast]
      exact List.length_pos_iff.2 hd
    rw [this]
    simp [putText]
    omega
  · have := (textE_err h).1 he
    subst this
    simpa using hl
theorem rdMt_less {l : List UInt8} (hl : 0 < l.length) : (rdMt l).1.length < l.length := by
  rcases h1 : textE 16 0 l with ⟨l1, e1, s1⟩
  rcases h2 : intE e1 l1 with ⟨l2, e2, n⟩
  rcases h3 : textE 64 e2 l2 with ⟨l3, e3, s3⟩
  rw [rdMt_of h1 h2 h3]
  have := textE_less h1 hl
  have := (intE_err h2).2
  have := (textE_err h3).2
  show l3.length < l.length
  omega

/-- The matchers that may be laid and read. -/
def GoodM (m : Mt) : Prop := m.1.size ≤ 16 ∧ m.2.1 < 256 ∧ m.2.2.size ≤ 64
theorem isM_text (s r : List UInt8) : isM (putText s ++ r) = true := by
  unfold putText
  have hi : Lib.itoa (s.length : Int) = Lib.decDigits s.length := by unfold Lib.itoa; rw [if_neg (by omega), Int.toNat_natCast]
  rw [hi]
  have hd := dec_digits s.length
  cases hq : Lib.decDigits s.length with
  | nil => exact absurd hq (dec_ne _)
  | cons c d =>
    rw [hq] at hd
    have hc := hd c (List.mem_cons_self ..)
    have h1 : c ≠ 105 := fun e => by subst e; simp at hc
    simp [isM, moreB, h1]
    omega
theorem isM_int (n : Int) (r : List UInt8) : isM (putInt n ++ r) = false := by simp [isM, putInt]
theorem rdMt_laid (m : Mt) (h : GoodM m) (r : List UInt8) : rdMt ((partsM m).flatten ++ r) = (r, 0, m) := by
  obtain ⟨n, o, v⟩ := m
  obtain ⟨h1, h2, h3⟩ := h
  simp only at h1 h2 h3
  have e : (partsM (n, o, v)).flatten ++ r = putText n.data.toList ++ (putInt o ++ (putText v.data.toList ++ r)) := by simp [partsM]
  have n1 : n.data.toList.length = n.size := rfl
  have n3 : v.data.toList.length = v.size := rfl
  rw [e]
  have q1 : textE 16 0 (putText n.data.toList ++ (putInt o ++ (putText v.data.toList ++ r))) = (putInt o ++ (putText v.data.toList ++ r), 0, n.data.toList) := read_putText _ (by omega) 16 (by omega) _
  have q2 : intE 0 (putInt o ++ (putText v.data.toList ++ r)) = (putText v.data.toList ++ r, 0, (o : Int)) := read_putInt _ (by omega) (by omega) _
  have q3 : textE 64 0 (putText v.data.toList ++ r) = (r, 0, v.data.toList) := read_putText _ (by omega) 64 (by omega) _
  rw [rdMt_of q1 q2 q3]
  have : ((o : Int) % 256).toNat = o := by omega
  rw [this]
theorem rdMs_laid : ∀ (ms : List Mt) (f : Nat) (r : List UInt8), (∀ m ∈ ms, GoodM m) → ms.length ≤ f → isM r = false → rdMs f 0 ((partsMs ms).flatten ++ r) = (ms, r, 0)
  | [], 0, r, _, _, _ => rfl
  | [], f + 1, r, _, _, hr => by
    show (if isM r then _ else _) = _
    rw [hr]
    rfl
  | m :: ms, f + 1, r, h, hf, hr => by
    have e : (partsMs (m :: ms)).flatten ++ r = (partsM m).flatten ++ ((partsMs ms).flatten ++ r) := by simp [partsMs]
    have hm : isM ((partsM m).flatten ++ ((partsMs ms).flatten ++ r)) = true := by
      have : (partsM m).flatten ++ ((partsMs ms).flatten ++ r) = putText m.1.data.toList ++ (putInt m.2.1 ++ (putText m.2.2.data.toList ++ ((partsMs ms).flatten ++ r))) := by simp [partsM]
      rw [this]
      exact isM_text _ _
    have ih := rdMs_laid ms f r (fun x hx => h x (by simp [hx])) (by simpa using hf) hr
    rw [e]
    unfold rdMs
    rw [if_pos hm, rdMt_laid m (h m (by simp))]
    simp only [if_true, ih]
theorem partsMs_len : ∀ (ms : List Mt), ms.length ≤ (partsMs ms).flatten.length
  | [] => by simp
  | m :: ms => by
    have := partsMs_len ms
    have e : (partsMs (m :: ms)).flatten = putText m.1.data.toList ++ (putInt m.2.1 ++ (putText m.2.2.data.toList ++ (partsMs ms).flatten)) := by simp [partsMs, partsM]
    have h1 : 1 ≤ (putInt m.2.1).length := by simp [putInt]
    rw [e]
    simp only [List.length_append, List.length_cons]
    omega

/-- A silence that may be has matchers that are laid and read. -/
theorem allE_zero : ∀ {ms : List Mt}, allE ms = 0 → ∀ m ∈ ms, mErr m = 0
  | m :: r, h, x, hx => by
    unfold allE at h
    by_cases h0 : mErr m = 0
    · rw [if_neg (by simpa using h0)] at h
      rcases List.mem_cons.1 hx with rfl | hx
      · exact h0
      · exact allE_zero h x hx
    · rw [if_pos h0] at h
      exact absurd h h0
theorem silE_zero {s : Sil} (h : silE s = 0) : NameOk s.id ∧ s.ms.length ≤ 8 ∧ 0 < s.ms.length ∧ (∀ m ∈ s.ms, mErr m = 0) ∧ 0 ≤ s.st ∧ s.st ≤ s.en ∧ s.en ≤ 1099511627776 := by
  unfold silE at h
  split at h
  · cases h
  · rename_i h1
    split at h
    · rename_i h2; exact absurd h h2
    · rename_i h2
      split at h
      · cases h
      · split at h
        · cases h
        · rename_i h3 h4
          have h2' := Classical.not_not.1 h2
          unfold checkAllE at h2'
          split at h2'
          · cases h2'
          · exact ⟨Classical.not_not.1 h1, by omega, by omega, allE_zero h2', by omega, by omega, by omega⟩
theorem good_of {m : Mt} (h : mErr m = 0) : GoodM m := by
  obtain ⟨h1, h2, h3, -⟩ := mErr_zero h
  exact ⟨h1.1.2, by omega, h3⟩
theorem readS_lay {s : Sil} (h : silE s = 0) : readS (layS s.ms s.st s.en) = (s.ms, s.st, s.en) := by
  obtain ⟨-, h2, h3, h4, h5, h6, h7⟩ := silE_zero h
  have e : layS s.ms s.st s.en = 108 :: ((partsMs s.ms).flatten ++ (putInt s.st ++ (putInt s.en ++ [101]))) := by simp [layS, putList, partsS]
  have q0 : byteE 108 0 (layS s.ms s.st s.en) = ((partsMs s.ms).flatten ++ (putInt s.st ++ (putInt s.en ++ [101])), 0) := by rw [e]; simp [byteE, rdByte]
  have hl : s.ms.length ≤ (layS s.ms s.st s.en).length := by
    rw [e]
    have := partsMs_len s.ms
    simp only [List.length_cons, List.length_append]
    omega
  have q1 := rdMs_laid s.ms (layS s.ms s.st s.en).length (putInt s.st ++ (putInt s.en ++ [101])) (fun m hm => good_of (h4 m hm)) hl (isM_int _ _)
  have q2 : intE 0 (putInt s.st ++ (putInt s.en ++ [101])) = (putInt s.en ++ [101], 0, s.st) := read_putInt _ (by omega) (by omega) _
  have q3 : intE 0 (putInt s.en ++ [101]) = ([101], 0, s.en) := read_putInt _ (by omega) (by omega) _
  exact readS_of q0 q1 q2 q3

/-- An entry is that of a silence that may be. -/
def IsE (s : Sil) (x : Ent) : Prop := entryE s x.t = 0 ∧ entS s x.t x.o = x
theorem entryE_zero {s : Sil} {t : Int} (h : entryE s t = 0) : silE s = 0 ∧ 0 ≤ t ∧ t ≤ 1099511627776 := by
  unfold entryE at h
  split at h
  · rename_i h1; exact absurd h h1
  · rename_i h1
    split at h
    · cases h
    · exact ⟨Classical.not_not.1 h1, by omega, by omega⟩
/-- What is told of a silence's entry. -/
def tellS (x : Ent) (id : ByteArray) : Sil := ⟨id, (readS x.v.data.toList).1, (readS x.v.data.toList).2.1, (readS x.v.data.toList).2.2⟩
theorem IsE.tell {s : Sil} {x : Ent} (h : IsE s x) : x.k = keyS s.id ∧ tellS x s.id = s := by
  obtain ⟨h1, h2⟩ := h
  obtain ⟨h3, -, -⟩ := entryE_zero h1
  have hv : x.v = ⟨(layS s.ms s.st s.en).toArray⟩ := by rw [← h2]; rfl
  have hk : x.k = keyS s.id := by
    have := congrArg Ent.k h2
    exact this.symm
  refine ⟨hk, ?_⟩
  unfold tellS
  rw [hv]
  show (⟨s.id, (readS (layS s.ms s.st s.en)).1, (readS (layS s.ms s.st s.en)).2.1, (readS (layS s.ms s.st s.en)).2.2⟩ : Sil) = s
  rw [readS_lay h3]
theorem keyS_inj {a b : ByteArray} (h : keyS a = keyS b) : a = b := by
  have := congrArg (fun k : ByteArray => k.data.toList) h
  simp [keyS] at this
  exact bytes_ext (by simpa using this)
theorem IsE.uniq {s s' : Sil} {x : Ent} (h : IsE s x) (h' : IsE s' x) : s = s' := by
  obtain ⟨k1, t1⟩ := h.tell
  obtain ⟨k2, t2⟩ := h'.tell
  rw [k1] at k2
  rw [← t1, ← t2, keyS_inj k2]


/-- A block of one silence. -/
def SBlk (w : World) (B : Nat) (id : ByteArray) (a : Option Addr) (n c : Nat) (st en : Int) : Prop := w.heap[B]? = some (.cells #[.string id, .slice a n c, .int .i64 st, .int .i64 en] 55 (0, 0))
theorem SBlk.lt {w : World} {B : Nat} {id : ByteArray} {a : Option Addr} {n c : Nat} {st en : Int} (h : SBlk w B id a n c st en) : B < w.heap.size := ltE h
theorem SBlk.on {w w' : World} {B : Nat} {id : ByteArray} {a : Option Addr} {n c : Nat} {st en : Int} (h : SBlk w B id a n c st en) (hb : Below w.heap.size w w') : SBlk w' B id a n c st en := (hb.block B h.lt).trans h
theorem SBlk.new (w : World) (id : ByteArray) (a : Option Addr) (n c : Nat) (st en : Int) : SBlk (w.alloc (.cells #[.string id, .slice a n c, .int .i64 st, .int .i64 en] 55)) w.heap.size id a n c st en := newE w _
theorem SBlk.c0 {w : World} {B : Nat} {id : ByteArray} {a : Option Addr} {n c : Nat} {st en : Int} (h : SBlk w B id a n c st en) : w.cell? ⟨B, 0, none⟩ = some (.string id) := cellE h
theorem SBlk.c1 {w : World} {B : Nat} {id : ByteArray} {a : Option Addr} {n c : Nat} {st en : Int} (h : SBlk w B id a n c st en) : w.cell? ⟨B, 1, none⟩ = some (.slice a n c) := cellE h
theorem SBlk.c2 {w : World} {B : Nat} {id : ByteArray} {a : Option Addr} {n c : Nat} {st en : Int} (h : SBlk w B id a n c st en) : w.cell? ⟨B, 2, none⟩ = some (.int .i64 st) := cellE h
theorem SBlk.c3 {w : World} {B : Nat} {id : ByteArray} {a : Option Addr} {n c : Nat} {st en : Int} (h : SBlk w B id a n c st en) : w.cell? ⟨B, 3, none⟩ = some (.int .i64 en) := cellE h
theorem SBlk.f {w : World} {B : Nat} {id : ByteArray} {a : Option Addr} {n c : Nat} {st en : Int} (h : SBlk w B id a n c st en) (j : Nat) : w.frozen? ⟨B, j, none⟩ = false := by
  unfold SBlk at h
  simp [World.frozen?, h]

set_option maxRecDepth 20000 in
set_option maxHeartbeats 2000000 in
theorem sCheck_any (s : Sil) (a : Option Addr) (c : Nat) (w : World) (htab : TabW w) (hm : MtsAt w a s.ms) (hml : s.ms.length ≤ 9223372036854775807) :
    Calls Tryz.prog 25 #[.agg #[.string s.id, .slice a s.ms.length c, .int .i64 s.st, .int .i64 s.en]] w fun e w' => e = .returned (.int .i64 (silE s)) ∧ Below w.heap.size w w' := by
  have htl := htab.lt
  have d1 := (Below.refl w.heap.size w).alloc (Nat.le_refl _) (.cells #[.string s.id, .slice a s.ms.length c, .int .i64 s.st, .int .i64 s.en] 55)
  have b1 := SBlk.new w s.id a s.ms.length c s.st s.en
  have HN := Lib.hid (fun u => Name_any s.id u)
  have HC := Lib.hid (mCheckAll_any a c s.ms _ (htab.on d1 htl) (hm.below d1 (Nat.le_refl _)) hml)
  have HB := Lib.hid b1
  have HD := Lib.hid d1
  unfold silE
  by_cases h1 : NameOk s.id
  · rw [decide_eq_true h1] at HN
    rw [if_neg (Classical.not_not.2 h1)]
    clear h1 b1 d1 hm
    by_cases h2 : checkAllE s.ms = 0
    · rw [if_neg (Classical.not_not.2 h2)]
      rw [h2] at HC
      clear h2
      by_cases h3 : s.ms.length = 0
      · rw [if_pos h3]
        have h3' : (s.ms.length : Int) = 0 := by omega
        generalize s.ms.length = n at *
        subst h3
        clear h3' hml
        obtain ⟨id, ms, st, en⟩ := s
        dsimp only at HB HC HN HD ⊢
        go_enter Tryz.func25, Tryz.ntmps25
        go_wp2_with (first | (go_at_call 70; refine (HN.out _).mono ?_; rintro e w1 ⟨rfl, rfl⟩) | (go_at_call 71; refine HC.out.mono ?_; rintro e w1 ⟨rfl, q1⟩; refine Hid.out ?_))
        refine Lib.hid ?_
        have b2 := HB.out.on q1
        have k1 := b2.c1
        have k2 := b2.c2
        have k3 := b2.c3
        have HQ := Lib.hid (HD.out.trans (q1.mono HD.out.size))
        clear b2 q1 HB HD HC HN
        go_wp2
        go_ret
        exact ⟨rfl, HQ.out⟩
      · rw [if_neg h3]
        have h3' : ¬ (s.ms.length : Int) = 0 := by omega
        have h3b : ((s.ms.length : Int) == 0) = false := by simpa using h3'
        generalize s.ms.length = n at *
        clear h3 hml
        obtain ⟨id, ms, st, en⟩ := s
        dsimp only at HB HC HN HD ⊢
        by_cases h4 : st < 0
        · rw [if_pos (Or.inl h4)]
          go_enter Tryz.func25, Tryz.ntmps25
          go_wp2_with (first | (go_at_call 70; refine (HN.out _).mono ?_; rintro e w1 ⟨rfl, rfl⟩) | (go_at_call 71; refine HC.out.mono ?_; rintro e w1 ⟨rfl, q1⟩; refine Hid.out ?_))
          refine Lib.hid ?_
          have b2 := HB.out.on q1
          have k1 := b2.c1
          have k2 := b2.c2
          have k3 := b2.c3
          have HQ := Lib.hid (HD.out.trans (q1.mono HD.out.size))
          clear b2 q1 HB HD HC HN
          go_wp2
          go_ret
          exact ⟨rfl, HQ.out⟩
        by_cases h5 : en < st
        · rw [if_pos (Or.inr (Or.inl h5))]
          go_enter Tryz.func25, Tryz.ntmps25
          go_wp2_with (first | (go_at_call 70; refine (HN.out _).mono ?_; rintro e w1 ⟨rfl, rfl⟩) | (go_at_call 71; refine HC.out.mono ?_; rintro e w1 ⟨rfl, q1⟩; refine Hid.out ?_))
          refine Lib.hid ?_
          have b2 := HB.out.on q1
          have k1 := b2.c1
          have k2 := b2.c2
          have k3 := b2.c3
          have HQ := Lib.hid (HD.out.trans (q1.mono HD.out.size))
          clear b2 q1 HB HD HC HN
          go_wp2
          go_ret
          exact ⟨rfl, HQ.out⟩
        by_cases h6 : 1099511627776 < en
        · rw [if_pos (Or.inr (Or.inr h6))]
          go_enter Tryz.func25, Tryz.ntmps25
          go_wp2_with (first | (go_at_call 70; refine (HN.out _).mono ?_; rintro e w1 ⟨rfl, rfl⟩) | (go_at_call 71; refine HC.out.mono ?_; rintro e w1 ⟨rfl, q1⟩; refine Hid.out ?_))
          refine Lib.hid ?_
          have b2 := HB.out.on q1
          have k1 := b2.c1
          have k2 := b2.c2
          have k3 := b2.c3
          have HQ := Lib.hid (HD.out.trans (q1.mono HD.out.size))
          clear b2 q1 HB HD HC HN
          go_wp2
          go_ret
          exact ⟨rfl, HQ.out⟩
        · rw [if_neg (by omega)]
          go_enter Tryz.func25, Tryz.ntmps25
          go_wp2_with (first | (go_at_call 70; refine (HN.out _).mono ?_; rintro e w1 ⟨rfl, rfl⟩) | (go_at_call 71; refine HC.out.mono ?_; rintro e w1 ⟨rfl, q1⟩; refine Hid.out ?_))
          refine Lib.hid ?_
          have b2 := HB.out.on q1
          have k1 := b2.c1
          have k2 := b2.c2
          have k3 := b2.c3
          have HQ := Lib.hid (HD.out.trans (q1.mono HD.out.size))
          clear b2 q1 HB HD HC HN
          go_wp2
          go_ret
          exact ⟨rfl, HQ.out⟩
    · rw [if_pos h2]
      have hb : ((checkAllE s.ms : Int) != 0) = true := by simpa using h2
      generalize checkAllE s.ms = E at *
      generalize s.ms.length = n at *
      clear h2 hml
      obtain ⟨id, ms, st, en⟩ := s
      dsimp only at HB HC HN HD ⊢
      go_enter Tryz.func25, Tryz.ntmps25
      go_wp2_with (first | (go_at_call 70; refine (HN.out _).mono ?_; rintro e w1 ⟨rfl, rfl⟩) | (go_at_call 71; refine HC.out.mono ?_; rintro e w1 ⟨rfl, q1⟩; refine Hid.out ?_))
      refine Lib.hid ?_
      have b2 := HB.out.on q1
      have k1 := b2.c1
      have k2 := b2.c2
      have k3 := b2.c3
      have HQ := Lib.hid (HD.out.trans (q1.mono HD.out.size))
      clear b2 q1 HB HD HC HN
      go_wp2
      go_ret
      exact ⟨rfl, HQ.out⟩
  · rw [decide_eq_false h1] at HN
    rw [if_pos h1]
    clear h1 b1 d1 hm HC HB
    generalize s.ms.length = n at *
    obtain ⟨id, ms, st, en⟩ := s
    dsimp only at HN HD ⊢
    go_enter Tryz.func25, Tryz.ntmps25
    go_wp2_with (go_at_call 70; refine (HN.out _).mono ?_; rintro e w1 ⟨rfl, rfl⟩)
    go_ret
    exact ⟨rfl, HD.out⟩

end Go.Proofs.YtcngifkoopcmeaaGreatDoor
namespace Go.Proofs.YtcngifkoopcmeaaGreatDoor
open Go.RowKit

theorem infoBytes : (Tryz.prog.info? 111).map (fun i => (i.zero, i.size, i.bytes)) = some (some (.slice none 0 0), 1, 24) := by kernel_rfl

/-- A row of the call's own whose elements are slices of bytes, none of which lies in the row's own block. -/
structure RowOf (w : World) (B : Nat) (v : Value) (vs : List Value) (ls : List (List UInt8)) : Prop where
  own : w.ownsRow B 111 1 v vs.length vs
  len : vs.length = ls.length
  src : ∀ j (hj : j < vs.length), SrcAt w vs[j] (ls[j]'(by omega))
  apart : ∀ j (_ : j < vs.length) q n c, vs[j] = .slice (some q) n c → some q.block ≠ v.ownBlock
  lt : ∀ j (_ : j < vs.length) q n c, vs[j] = .slice (some q) n c → q.block < w.heap.size

theorem RowOf.nil (w : World) (B : Nat) : RowOf w B (.slice none 0 0) [] [] :=
  ⟨World.ownsRow_nil _ _ _ _, rfl, fun _ hj => absurd hj (Nat.not_lt_zero _), fun _ hj => absurd hj (Nat.not_lt_zero _), fun _ hj => absurd hj (Nat.not_lt_zero _)⟩

theorem RowOf.below {w w' : World} {B : Nat} {v : Value} {vs : List Value} {ls : List (List UInt8)} (h : RowOf w B v vs ls) (hb : Below w.heap.size w w') : RowOf w' B v vs ls :=
  ⟨h.own.kept (grownBy_of_below (r := none) hb) (by cases hv : v.ownBlock <;> simp), h.len, fun j hj => (h.src j hj).below hb (Nat.le_refl _), h.apart, fun j hj q n c e => Nat.lt_of_lt_of_le (h.lt j hj q n c e) hb.size⟩

theorem own_block_lt {w : World} {B : Nat} {v : Value} {l : List UInt8} (h : Own w B v l) : ∀ q n c, v = .slice (some q) n c → B ≤ q.block ∧ q.block < w.heap.size := by
  rintro q n c rfl
  exact World.ownsRow.lt h q.block rfl

/-- One part more. -/
theorem RowOf.step {w w1 w2 : World} {B : Nat} {v v' x : Value} {vs : List Value} {ls : List (List UInt8)} {l : List UInt8} {o : Obj} (h : RowOf w B v vs ls) (hb : Below w.heap.size w w1) (hx : Own w1 w.heap.size x l)
    (hown : w2.ownsRow B 111 1 v' (vs.length + 1) (vs ++ [x])) (hg : (w1.alloc o).grownBy w2 v.ownBlock) (hat : v'.ownBlock = v.ownBlock ∨ v'.ownBlock = some (w1.heap.size + 1)) : RowOf w2 B v' (vs ++ [x]) (ls ++ [l]) := by
  have hb1 : Below w1.heap.size w1 (w1.alloc o) := (Below.refl _ _).alloc (Nat.le_refl _) _
  have h1 := (h.below hb).below hb1
  have hvlt : ∀ k, v.ownBlock = some k → k < w.heap.size := fun k hk => (h.own.lt k hk).2
  have hxs := hx.src.below hb1 (Nat.le_refl _)
  refine ⟨by simpa using hown, by simp [h.len], fun j hj => ?_, fun j hj q n c e => ?_, fun j hj q n c e => ?_⟩
  · by_cases hj1 : j < vs.length
    · simp only [List.getElem_append_left hj1, List.getElem_append_left (show j < ls.length by have := h.len; omega)]
      exact (h1.src j hj1).grown hg (h1.apart j hj1)
    · have hj2 : j = vs.length := by simp at hj; omega
      subst hj2
      simp only [List.getElem_append_right (Nat.le_refl _), Nat.sub_self, List.getElem_singleton, List.getElem_append_right (show ls.length ≤ vs.length by have := h.len; omega), show vs.length - ls.length = 0 by have := h.len; omega]
      refine hxs.grown hg fun q n c e e2 => ?_
      have h2 := own_block_lt hx q n c e
      have h3 := hvlt q.block e2.symm
      omega
  · by_cases hj1 : j < vs.length
    · rw [List.getElem_append_left hj1] at e
      rcases hat with hat | hat
      · rw [hat]; exact h.apart j hj1 q n c e
      · rw [hat]
        intro e2
        simp only [Option.some.injEq] at e2
        have h2 := h.lt j hj1 q n c e
        have h3 := hb.size
        omega
    · have hj2 : j = vs.length := by simp at hj; omega
      subst hj2
      simp only [List.getElem_append_right (Nat.le_refl _), Nat.sub_self, List.getElem_singleton] at e
      have h2 := own_block_lt hx q n c e
      rcases hat with hat | hat
      · rw [hat]; intro e2; have h3 := hvlt q.block e2.symm; omega
      · rw [hat]; intro e2; simp only [Option.some.injEq] at e2; omega
  · have hs := hg.size
    simp only [World.size_alloc] at hs
    have hs1 := hb.size
    by_cases hj1 : j < vs.length
    · rw [List.getElem_append_left hj1] at e
      have h2 := h.lt j hj1 q n c e
      omega
    · have hj2 : j = vs.length := by simp at hj; omega
      subst hj2
      simp only [List.getElem_append_right (Nat.le_refl _), Nat.sub_self, List.getElem_singleton] at e
      have h2 := own_block_lt hx q n c e
      omega

/-- Several parts more. -/
theorem RowOf.steps {w w1 w2 : World} {B : Nat} {v v' : Value} {vs xs : List Value} {ls ms : List (List UInt8)} {o : Obj} (h : RowOf w B v vs ls) (hb : Below w.heap.size w w1) (hxl : xs.length = ms.length)
    (hx : ∀ j (hj : j < xs.length), SrcAt w1 xs[j] (ms[j]'(by omega))) (hlt : ∀ x ∈ xs, ∀ q n c, x = .slice (some q) n c → w.heap.size ≤ q.block ∧ q.block < w1.heap.size)
    (hown : w2.ownsRow B 111 1 v' (vs.length + xs.length) (vs ++ xs)) (hg : (w1.alloc o).grownBy w2 v.ownBlock) (hat : v'.ownBlock = v.ownBlock ∨ v'.ownBlock = some (w1.heap.size + 1)) : RowOf w2 B v' (vs ++ xs) (ls ++ ms) := by
  have hb1 : Below w1.heap.size w1 (w1.alloc o) := (Below.refl _ _).alloc (Nat.le_refl _) _
  have h1 := (h.below hb).below hb1
  have hvlt : ∀ k, v.ownBlock = some k → k < w.heap.size := fun k hk => (h.own.lt k hk).2
  have hl := h.len
  refine ⟨by simpa using hown, by simp [h.len, hxl], fun j hj => ?_, fun j hj q n c e => ?_, fun j hj q n c e => ?_⟩
  · by_cases hj1 : j < vs.length
    · simp only [List.getElem_append_left hj1, List.getElem_append_left (show j < ls.length by omega)]
      exact (h1.src j hj1).grown hg (h1.apart j hj1)
    · have hj2 : j - vs.length < xs.length := by simp at hj; omega
      have e1 : (vs ++ xs)[j] = xs[j - vs.length] := List.getElem_append_right (by omega)
      have e2 : (ls ++ ms)[j]'(by simp; omega) = ms[j - vs.length]'(by omega) := by
        rw [List.getElem_append_right (by omega)]
        simp [hl]
      rw [e1, e2]
      refine ((hx (j - vs.length) hj2).below hb1 (Nat.le_refl _)).grown hg fun q n c e e2 => ?_
      have h2 := hlt _ (List.getElem_mem hj2) q n c e
      have h3 := hvlt q.block e2.symm
      omega
  · by_cases hj1 : j < vs.length
    · rw [List.getElem_append_left hj1] at e
      rcases hat with hat | hat
      · rw [hat]; exact h.apart j hj1 q n c e
      · rw [hat]
        intro e2
        simp only [Option.some.injEq] at e2
        have h2 := h.lt j hj1 q n c e
        have h3 := hb.size
        omega
    · have hj2 : j - vs.length < xs.length := by simp at hj; omega
      rw [List.getElem_append_right (by omega)] at e
      have h2 := hlt _ (List.getElem_mem hj2) q n c e
      rcases hat with hat | hat
      · rw [hat]; intro e2; have h3 := hvlt q.block e2.symm; omega
      · rw [hat]; intro e2; simp only [Option.some.injEq] at e2; omega
  · have hs := hg.size
    simp only [World.size_alloc] at hs
    have hs1 := hb.size
    by_cases hj1 : j < vs.length
    · rw [List.getElem_append_left hj1] at e
      have h2 := h.lt j hj1 q n c e
      omega
    · have hj2 : j - vs.length < xs.length := by simp at hj; omega
      rw [List.getElem_append_right (by omega)] at e
      have h2 := hlt _ (List.getElem_mem hj2) q n c e
      omega

/-- The parts, as List reads them. -/
theorem RowOf.parts {w : World} {B : Nat} {a : Option Addr} {n c : Nat} {vs : List Value} {ls : List (List UInt8)} (h : RowOf w B (.slice a n c) vs ls) : n = ls.length ∧ PartsAt w a ls := by
  rcases h.own.2 with ⟨e, h0⟩ | ⟨g, cap, cur, e, -, -, -, -, -, -⟩
  · simp only [Value.slice.injEq] at e
    obtain ⟨rfl, rfl, rfl⟩ := e
    have := h.len
    exact ⟨by omega, fun h => by omega⟩
  · simp only [Value.slice.injEq] at e
    obtain ⟨rfl, rfl, rfl⟩ := e
    refine ⟨h.len, fun _ => ⟨g, 0, rfl, fun i hi => ?_⟩⟩
    have hi2 : i < vs.length := by have := h.len; omega
    refine ⟨vs[i], ?_, h.src i hi2⟩
    have := h.own.cells (g := g) rfl i vs[i] (by simp [hi2])
    rwa [Go.WideShapes.add_plain] at this

/-- Numbers that came in. -/
def IntsAt (w : World) (a : Option Addr) (zs : List Int) : Prop := ∀ i (hi : i < zs.length), ∃ b o, a = some ⟨b, o, none⟩ ∧ w.cell? ⟨b, o + i, none⟩ = some (.int .i64 zs[i])
theorem IntsAt.below {w w' : World} {a : Option Addr} {zs : List Int} {B : Nat} (h : IntsAt w a zs) (hb : Below B w w') (hB : w.heap.size ≤ B) : IntsAt w' a zs := fun i hi => by
  obtain ⟨b, o, rfl, hc⟩ := h i hi
  exact ⟨b, o, rfl, by rw [hb.cell (p := ⟨b, o + i, none⟩) (Nat.lt_of_lt_of_le (World.block_lt_of_cell? w _ hc) hB)]; exact hc⟩

theorem own_string {w : World} {B : Nat} {v : Value} {l : List UInt8} (h : Own w B v l) : (convert 111 9 v).run Tryz.prog w = .ok (.string ⟨l.toArray⟩) w := by
  rcases h.src with ⟨rfl, rfl⟩ | ⟨q, c, rfl, hc⟩
  · exact run_convert_bytes_zero w 111 5 Tryz.underlying111 Tryz.underlying5 none 0 9 Tryz.underlying9
  · exact run_convert_bytes_back (P := Tryz.prog) w 111 9 5 q c l Tryz.underlying111 Tryz.underlying5 Tryz.underlying9 hc

/-- The table of powers stands, whatever is laid above B. -/
def TabOk (B : Nat) (w : World) : Prop := Lib.TabBelow Tryz.prog B w "internal/strconv.uint64pow10" .u64 Lib.pow10Tab
theorem TabOk.on {B : Nat} {w w' : World} (h : TabOk B w) (hb : Below B w w') : TabOk B w' := fun w2 h2 => h w2 (hb.trans h2)
theorem VarsOk.tabOk {B : Nat} {w : World} (h : VarsOk B w) : TabOk B w := h.tab
theorem Text_tabv (s : ByteArray) (hs : s.size ≤ 140737488351232) (B : Nat) (w : World) (hB : B ≤ w.heap.size) (hv : TabOk B w) :
    Calls Tryz.prog 62 #[.string s] w fun e w' => ∃ a k c, e = .returned (.slice a k c) ∧ Own w' w.heap.size (.slice a k c) (putText s.data.toList) ∧ Below w.heap.size w w' :=
  (Text_tab s hs B w hB hv).mono fun e w' ⟨v, he, ho, hb⟩ => by obtain ⟨a, k, c, rfl⟩ := ho.form; exact ⟨a, k, c, he, ho, hb⟩

end Go.Proofs.YtcngifkoopcmeaaGreatDoor
