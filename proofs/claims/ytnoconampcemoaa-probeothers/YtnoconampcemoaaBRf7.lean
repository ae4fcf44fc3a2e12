/-
  The reference of layer 15: Hear, in one; what a region that hears and makes two boxes ends in.
-/
import Derived.Test.YtnoconampcemoaaBRf6a
import Derived.Test.YtnoconampcemoaaBRf6b
namespace Go.Proofs.Ytnoconampcemoaa
open Go Go.RowKit

theorem brHear_any (a : Option Addr) (n c : Nat) (T : Tb) (hok : TbOk T) (m : Mem) (h0 : 0 ≤ m.n) (w : World) (hM : MemsAt w a (memsB T)) (hn : n = (memsB T).length) :
    Calls Try.prog 28 #[.agg #[.int .u16 (T.s : Int), .slice a n c], .agg #[.int .u16 m.n, .int .u8 m.s, .int .i64 m.i]] w (HearRPost a T m w) := by
  obtain ⟨mn, ms, mi⟩ := m
  obtain ⟨k, rfl⟩ : ∃ k : Nat, mn = (k : Int) := ⟨mn.toNat, by dsimp only at h0; omega⟩
  dsimp only
  cases hmay : mayM ⟨(k : Int), ms, mi⟩ with
  | false => exact brHear_bad a n c T hok k ms mi w hM hn hmay
  | true =>
    obtain ⟨-, -, h3, h4⟩ := (mayM_iff _).1 hmay
    dsimp only at h3 h4
    cases hf : T.f k with
    | none =>
      by_cases hk : k = T.s
      · by_cases hz : ms = 0
        · exact brHear_none_alive a n c T hok k ms mi w hM hn hmay hf hk hz
        · by_cases hi : mi = 1073741824
          · exact brHear_none_max a n c T hok k ms mi w hM hn hmay hf hk hz hi
          · exact brHear_none_deny a n c T hok k ms mi w hM hn hmay hf hk hz (by omega) h3
      · exact brHear_none_other a n c T hok k ms mi w hM hn hmay hf hk
    | some x =>
      cases hab : aboveM ⟨(k : Int), ms, mi⟩ x with
      | false => exact brHear_low a n c T hok k ms mi w hM hn hmay x hf hab
      | true =>
        by_cases hk : k = T.s
        · by_cases hz : ms = 0
          · exact brHear_some_alive a n c T hok k ms mi w hM hn hmay x hf hab hk hz
          · by_cases hi : mi = 1073741824
            · exact brHear_some_max a n c T hok k ms mi w hM hn hmay x hf hab hk hz hi
            · exact brHear_some_deny a n c T hok k ms mi w hM hn hmay x hf hab hk hz (by omega) h3
        · exact brHear_some_other a n c T hok k ms mi w hM hn hmay x hf hab hk
/-- What every order of a region ends in. -/
def Ends5 (A : Nat → Nat → Option Addr → Nat → Nat → Act) (F : Nat → Nat → Option Addr → Nat → Nat → World → Prop) : Exit → Act → World → Prop
  | .normal, a, w => ∃ b b' x n c, a = A b b' x n c ∧ F b b' x n c w
  | _, _, _ => False
theorem code_join5 {P : Program} {c : Code} {Q : Exit → Act → World → Prop} {a : Act} {w : World} (F : Nat → Nat → Option Addr → Nat → Nat → World → Prop) (A : Nat → Nat → Option Addr → Nat → Nat → Act) (hR : c.wp P (Ends5 A F) a w) (hT : ∀ b b' x n c w, F b b' x n c w → Q .normal (A b b' x n c) w) : c.wp P Q a w :=
  Code.wp_mono (fun e a w h => by
    cases e with
    | normal =>
      obtain ⟨b, b', x, n, c, rfl, hF⟩ := h
      exact hT b b' x n c w hF
    | _ => exact h.elim) hR
theorem memsB_pos {T : Tb} (h : TbOk T) : 0 < (memsB T).length := by
  obtain ⟨m, hm⟩ := h.me
  have h1 : m ∈ memsB T := by
    rw [mem_memsB h]
    have := (h.ok _ m hm).1
    rw [this]
    simpa using hm
  exact List.length_pos_of_mem h1
theorem MemsAt.ltB {w : World} {a : Option Addr} {l : List Mem} (h : MemsAt w a l) (h0 : 0 < l.length) : ∀ q, a = some q → q.block < w.heap.size := fun q e => by
  obtain ⟨b, o, e2, hlt, -⟩ := h h0
  rw [e] at e2
  obtain rfl := Option.some.inj e2
  exact hlt
theorem MemsAt.setM {w : World} {a : Option Addr} {l : List Mem} (h : MemsAt w a l) {b : Nat} (hne : ∀ q, a = some q → q.block ≠ b) (m : Mem) : MemsAt (stM w b m) a l := h.skip (stM_grown w b m) hne
theorem MemsAt.setR {w : World} {a : Option Addr} {l : List Mem} (h : MemsAt w a l) {b : Nat} (hne : ∀ q, a = some q → q.block ≠ b) (s : Int) (x : Option Addr) (n c : Nat) : MemsAt (stR w b s x n c) a l := h.skip (stR_grown w b s x n c) hne
theorem results_rt2 {fn : Func} {p u : Tmp} (h : fn.results = #[.cell p 35, .tmp u]) (tmps : Array Value) (w : World) (b : Nat) {s : Int} {a : Option Addr} {n c : Nat} (hp : tmps.getD p undef = .pointer (some ⟨b, 0, none⟩)) (ht : RtB w b s a n c) :
    (results fn tmps).run Try.prog w = .ok (.tuple #[.agg #[.int .u16 s, .slice a n c], tmps.getD u undef]) w := by
  have hp' : tmps[p]?.getD undef = .pointer (some ⟨b, 0, none⟩) := by simpa using hp
  simp [results, h, hp', asAddr, ht.load]
/-- What a region that hears ends in: a box of the table that it leaves, and one of what it tells. -/
def HearEnd (N : Nat) (X : World) (a : Option Addr) (T : Tb) (m : Mem) (b b' : Nat) (x : Option Addr) (n c : Nat) (w' : World) : Prop :=
  RtB w' b (T.s : Int) x n c ∧ Mb w' b' (heardM T m) ∧ N ≤ b ∧ N ≤ b' ∧ n = (memsB (hearB T m)).length ∧ MemsAt w' x (memsB (hearB T m)) ∧ (∀ q, x = some q → a = some q ∨ N ≤ q.block) ∧ Below N X w'
/-- From what is there behind the call and both boxes to what is there behind both stores. -/
theorem HearEnd.mk {N : Nat} {X u : World} {a : Option Addr} {T : Tb} {m : Mem} {b b' : Nat} {x : Option Addr} {n c : Nat} (hr : RtB u b 0 none 0 0) (hm : Mb u b' zM) (hb : N ≤ b) (hb' : N ≤ b') (hne : b ≠ b') (hn : n = (memsB (hearB T m)).length)
    (hl : MemsAt u x (memsB (hearB T m))) (hs : ∀ q, x = some q → a = some q ∨ N ≤ q.block) (h1 : ∀ q, x = some q → q.block ≠ b) (h2 : ∀ q, x = some q → q.block ≠ b') (hB : Below N X u) :
    HearEnd N X a T m b b' x n c (stM (stR u b (T.s : Int) x n c) b' (heardM T m)) :=
  ⟨(hr.store _ _ _ _).stM hne _, (hm.stR hne.symm _ _ _ _).store _, hb, hb', hn, (hl.setR h1 _ _ _ _).setM h2 _, hs, stM_below (stR_below hB hb _ _ _ _) hb' _⟩

end Go.Proofs.Ytnoconampcemoaa
