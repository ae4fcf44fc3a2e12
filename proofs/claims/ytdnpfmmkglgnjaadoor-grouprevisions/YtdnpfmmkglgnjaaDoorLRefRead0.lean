/-
  What the walk of the reference's Read keeps: its reader in a block of two cells, the pairs so far.
-/
import Derived.Test.YtdnpfmmkglgnjaaDoorLRead
import Derived.Test.YtdnpfmmkglgnjaaDoorLRef1
import Derived.Test.YtdnpfmmkglgnjaaDoorLRefKey
import Derived.Test.YtdnpfmmkglgnjaaDoorRef6
import Derived.Test.YtdnpfmmkglgnjaaDoorTwo
namespace Go.Proofs.YtdnpfmmkglgnjaaDoor
open Go.RowKit

theorem SrcAt.len {w : World} {a : Option Addr} {n c : Nat} {l : List UInt8} (h : SrcAt w (.slice a n c) l) : n = l.length := src_len h

theorem bytes_of_string2 (w : World) (s : ByteArray) : ∃ a c w', (convert 9 37 (.string s)).run Tryd.prog w = .ok (.slice (some a) s.size c) w' ∧ SrcAt w' (.slice (some a) s.size c) s.data.toList ∧ s.size ≤ c ∧ a.block < w'.heap.size ∧ Below w.heap.size w w' := by
  refine ⟨⟨w.heap.size, 0, none⟩, _, _, Lib.run_convert_string_bytes w 9 37 5 s Tryd.underlying9 Tryd.underlying37 Tryd.underlying5, .inr ⟨_, _, rfl, fun i hi => ?_⟩, grownCap_ge _ _ _ _, by rw [Lib.bytesWorld_size]; exact Nat.lt_succ_self _, Lib.bytesWorld_below _ _ _⟩
  rw [Go.WideShapes.add_plain, Nat.zero_add, Lib.bytesWorld_cell w 5 s i (by show i < s.data.size; simpa using hi)]
  rw [List.getD_eq_getElem?_getD, List.getElem?_eq_getElem hi]
  rfl
theorem check_len' {ps : List Pr} (h : checkE ps = 0) : ps.length ≤ 8 := by
  unfold checkE at h
  split at h
  · rename_i hne; exact absurd h hne
  · rename_i hne; exact partsE_zero (Classical.not_not.1 hne)
theorem flat_le' : ∀ (ps : List Pr), (∀ p ∈ ps, p.1.size ≤ 64 ∧ p.2.size ≤ 64) → (partsK ps).flatten.length ≤ ps.length * 172
  | [], _ => by simp [partsK]
  | p :: ps, h => by
    have ih := flat_le' ps fun x hx => h x (List.mem_cons_of_mem _ hx)
    have hp := h p (List.mem_cons_self ..)
    have h1 := putText_len' p.1.data.toList (show p.1.size ≤ _ by omega)
    have h2 := putText_len' p.2.data.toList (show p.2.size ≤ _ by omega)
    have e1 : p.1.data.toList.length = p.1.size := rfl
    have e2 : p.2.data.toList.length = p.2.size := rfl
    have e : (partsK (p :: ps)).flatten = putText p.1.data.toList ++ (putText p.2.data.toList ++ (partsK ps).flatten) := by simp [partsK]
    rw [e]
    simp only [List.length_append, List.length_cons]
    omega
theorem refKey_ok (a : Option Addr) (c : Nat) (ps : List Pr) (w : World) (h : PairsAt w a ps) (hc : checkE ps = 0) (n : Nat) (hn : n = ps.length) :
    Calls Tryd.prog 39 #[.slice a n c] w fun e w' => e = .returned (.string ⟨(keyL ps).toArray⟩) ∧ Below w.heap.size w w' := by
  have h8 := check_len' hc
  have hf := check_fit hc
  have hl := flat_le' ps fun p hp => by have := hf p hp; omega
  exact refKey_any a c ps w h (by omega) (fun p hp => by have := hf p hp; omega) (by omega) n hn

/-- The reference's reader in its block, what is left, and the pairs so far. -/
structure RS (w : World) (rb B1 : Nat) (v : Value) (ps : List Pr) (a : Option Addr) (c : Nat) (l : List UInt8) (e : Int) : Prop where
  blk : Two w rb 54 (.slice a l.length c) (.int .i64 e)
  src : SrcAt w (.slice a l.length c) l
  cap : l.length ≤ c
  low : ∀ q, a = some q → q.block < rb
  err : e ≠ 0 → l = []
  own : OwnP w B1 v ps
theorem own_kept_below {w w' : World} {B : Nat} {v : Value} {ps : List Pr} (h : OwnP w B v ps) (hb : Below w.heap.size w w') : OwnP w' B v ps := World.ownsRow.kept h (grownBy_of_below (r := none) hb) (by cases hv : v.ownBlock <;> simp)
theorem RS.below {w w' : World} {rb B1 : Nat} {v : Value} {ps : List Pr} {a : Option Addr} {c : Nat} {l : List UInt8} {e : Int} (h : RS w rb B1 v ps a c l e) (hb : Below w.heap.size w w') : RS w' rb B1 v ps a c l e :=
  ⟨h.blk.below hb h.blk.lt, h.src.below hb (Nat.le_refl _), h.cap, h.low, h.err, own_kept_below h.own hb⟩

/-- The reader's block and one cell of another block are stored to. -/
theorem RS.stored {w : World} {rb B1 pb : Nat} {v : Value} {ps : List Pr} {a a1 : Option Addr} {c c1 : Nat} {l l1 : List UInt8} {e e1 : Int} (h : RS w rb B1 v ps a c l e) (hs : SrcAt w (.slice a1 l1.length c1) l1) (hc : l1.length ≤ c1) (hl : ∀ q, a1 = some q → q.block < rb) (he : e1 ≠ 0 → l1 = []) (hrb : rb < B1) (hpb : B1 ≤ pb) (hvp : ∀ k, v.ownBlock = some k → k < pb) (i : Nat) (u : Value) :
    RS (((w.setCell ⟨rb, 0, none⟩ (.slice a1 l1.length c1)).setCell ⟨rb, 1, none⟩ (.int .i64 e1)).setCell ⟨pb, i, none⟩ u) rb B1 v ps a1 c1 l1 e1 := by
  have hb : Below rb w (((w.setCell ⟨rb, 0, none⟩ (.slice a1 l1.length c1)).setCell ⟨rb, 1, none⟩ (.int .i64 e1)).setCell ⟨pb, i, none⟩ u) := (((Below.refl rb w).setCell (p := ⟨rb, 0, none⟩) (Nat.le_refl _) _).setCell (p := ⟨rb, 1, none⟩) (Nat.le_refl _) _).setCell (p := ⟨pb, i, none⟩) (show rb ≤ pb by omega) _
  refine ⟨((h.blk.set0 _).set1 _).far ⟨pb, i, none⟩ (show rb ≠ pb by omega) u, hs.low hb hl, hc, hl, he, ?_⟩
  have hk : ∀ k, v.ownBlock = some k → B1 ≤ k := fun k hk => (World.ownsRow.lt h.own k hk).1
  have n1 : v.ownBlock = none ∨ v.ownBlock ≠ some rb := .inr fun e => by have := hk rb e; omega
  have n2 : v.ownBlock = none ∨ v.ownBlock ≠ some pb := .inr fun e => by have := hvp pb e; omega
  exact ((World.ownsRow.kept h.own (grownBy_setCell w rb 0 _) n1).kept (grownBy_setCell _ rb 1 _) n1).kept (grownBy_setCell _ pb i u) n2

def lenV : Value → Nat
  | .slice _ n _ => n
  | _ => 0

/-- No pairs that may be have this key: where the rounds ended. -/
theorem inv_stop {key l : List UInt8} {ps : List Pr} (h : Inv key l 0 ps) (hx : moreB l = false ∨ 8 < ps.length) : ∀ qs, checkE qs = 0 → key = keyL qs → qs = ps := fun qs hc hk => by
  obtain ⟨-, rs, rfl, hl⟩ := h.next qs hk hc
  cases rs with
  | nil => simp
  | cons q rs =>
    rcases hx with hx | hx
    · rw [hl, moreB_tail] at hx
      cases hx
    · have := check_len' hc
      simp at this
      omega

/-- Read's answer of the reference. -/
def RefAns (w' : World) (key : List UInt8) (e : Ending) : Prop :=
  (∃ a c, ∃ ps : List Pr, e = .returned (.tuple #[.slice a ps.length c, .int .i64 0]) ∧ PairsAt w' a ps ∧ checkE ps = 0 ∧ key = keyL ps) ∨
  (e = .returned (.tuple #[.slice none 0 0, .int .i64 4]) ∧ ∀ qs, checkE qs = 0 → key ≠ keyL qs)

theorem str_same (s : ByteArray) (l : List UInt8) (h : s.data.toList = l) : (⟨l.toArray⟩ : ByteArray) = s := by
  subst h
  rfl
theorem str_not (s : ByteArray) (l : List UInt8) (h : ¬ s.data.toList = l) : ¬ (⟨l.toArray⟩ : ByteArray).toList = s.toList := fun e => by
  rw [ByteArray.toList_eq, ByteArray.toList_eq] at e
  exact h (by rw [← e])
theorem rdByte_err (ch : UInt8) (l : List UInt8) : (rdByte ch l).2 ≠ 0 → (rdByte ch l).1 = [] := by
  cases l with
  | nil => intro _; rfl
  | cons x l =>
    simp only [rdByte]
    split
    · intro h; exact absurd rfl h
    · intro _; rfl
theorem inv_left {key l : List UInt8} {e : Int} {ps : List Pr} (h : Inv key l e ps) (he : e ≠ 0 → l = []) : l.length ≤ key.length := by
  by_cases h0 : e = 0
  · rw [h.laid h0]
    simp
    omega
  · rw [he h0]
    exact Nat.zero_le _

/-- Texts that are read are short. -/
def ShortP (ps : List Pr) : Prop := ∀ p ∈ ps, p.1.size ≤ 9223372036854775807
theorem ShortP.push {ps : List Pr} {s1 s2 : ByteArray} (h : ShortP ps) (h1 : s1.size ≤ 9223372036854775807) : ShortP (ps ++ [(s1, s2)]) := fun p hp => by
  rcases List.mem_append.1 hp with hp | hp
  · exact h p hp
  · simp only [List.mem_singleton] at hp
    subst hp
    exact h1
theorem rdText_text {l r s : List UInt8} {e most : Int} (h : rdText most l = (r, e, s)) : s.length ≤ l.length := by
  by_cases he : e = 0
  · subst he
    rw [rdText_laid h]
    simp [putText]
    omega
  · rw [rdText_err h he]
    exact Nat.zero_le _

end Go.Proofs.YtdnpfmmkglgnjaaDoor
