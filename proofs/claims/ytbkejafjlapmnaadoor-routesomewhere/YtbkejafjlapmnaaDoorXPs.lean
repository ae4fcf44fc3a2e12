/-
  A pattern that the reference is reading: the trees t and r in blocks of their own, their rows, and what the parts mean.
-/
import Derived.Test.YtbkejafjlapmnaaDoorXTreeAt
namespace Go.Proofs.YtbkejafjlapmnaaDoor
open Go.RowKit

/-- The blocks that the parts' own rows may lie in: made by the call, and written no more. -/
def Frz (B : Nat) (w : World) (E : Nat → Prop) (va vr : Value) (b : Nat) : Prop := B ≤ b ∧ b < w.heap.size ∧ ¬ E b ∧ va.ownBlock ≠ some b ∧ vr.ownBlock ≠ some b

/-- Parts mean what is named. -/
def Dens (d : Nat) (w : World) (X : Nat → Prop) (ts : List TV) (Ls : List Lang) : Prop := ts.length = Ls.length ∧ ∀ i (h1 : i < ts.length) (h2 : i < Ls.length), Den d w X ts[i] Ls[i]
theorem Dens.nil (d : Nat) (w : World) (X : Nat → Prop) : Dens d w X [] [] := ⟨rfl, fun _ h1 => absurd h1 (Nat.not_lt_zero _)⟩
theorem Dens.keep {d : Nat} {w w' : World} {X Y : Nat → Prop} {ts : List TV} {Ls : List Lang} (h : Dens d w X ts Ls) (hw : ∀ b, X b → w'.heap[b]? = w.heap[b]?) (hX : ∀ b, X b → Y b) : Dens d w' Y ts Ls :=
  ⟨h.1, fun i h1 h2 => Den.keep hw hX d _ _ (h.2 i h1 h2)⟩
theorem Dens.le {d e : Nat} (hde : d ≤ e) {w : World} {X : Nat → Prop} {ts : List TV} {Ls : List Lang} (h : Dens d w X ts Ls) : Dens e w X ts Ls := ⟨h.1, fun i h1 h2 => (h.2 i h1 h2).le hde⟩
theorem Dens.snoc {d : Nat} {w : World} {X : Nat → Prop} {ts : List TV} {Ls : List Lang} (h : Dens d w X ts Ls) {t : TV} {L : Lang} (ht : Den d w X t L) : Dens d w X (ts ++ [t]) (Ls ++ [L]) := by
  refine ⟨by simp [h.1], fun i h1 h2 => ?_⟩
  by_cases hi : i < ts.length
  · rw [List.getElem_append_left hi, List.getElem_append_left (by rw [← h.1]; exact hi)]
    exact h.2 i hi _
  · have e : i = ts.length := by simp at h1; omega
    subst e
    rw [List.getElem_append_right (Nat.le_refl _), List.getElem_append_right (by rw [h.1]; exact Nat.le_refl _)]
    simpa using ht

/-- t's block, the answer's block, the rows of t and of r. -/
structure PS (w0 w : World) (E : Nat → Prop) (aT : Option Addr) (cT : Nat) (ts : List TV) (Ls : List Lang) (aR : Option Addr) (cR : Nat) (rs : List TV) (Ms : List Lang) (d : Nat) : Prop where
  t : TreeBlk w (w0.heap.size + 1) ⟨2, noneB, aT, ts.length, cT⟩
  z : TreeBlk w w0.heap.size (noT 0)
  ot : OwnTr w (w0.heap.size + 3) (.slice aT ts.length cT) ts
  ow : OwnTr w (w0.heap.size + 3) (.slice aR rs.length cR) rs
  ap : ∀ b, (Value.slice aT ts.length cT).ownBlock = some b → (Value.slice aR rs.length cR).ownBlock ≠ some b
  ex : ∀ b, E b → w0.heap.size + 3 ≤ b ∧ (Value.slice aT ts.length cT).ownBlock ≠ some b ∧ (Value.slice aR rs.length cR).ownBlock ≠ some b
  dt : Dens d w (Frz (w0.heap.size + 3) w E (.slice aT ts.length cT) (.slice aR rs.length cR)) ts Ls
  dr : Dens d w (Frz (w0.heap.size + 3) w E (.slice aT ts.length cT) (.slice aR rs.length cR)) rs Ms
  bl : Below w0.heap.size w0 w
  sz : w0.heap.size + 3 ≤ w.heap.size

section
variable {w0 w w' : World} {E : Nat → Prop} {aT aR : Option Addr} {cT cR : Nat} {ts rs : List TV} {Ls Ms : List Lang} {d : Nat}

theorem OwnTr.of {B : Nat} {v : Value} (h : OwnTr w B v ts) (hv : ∀ b, v.ownBlock = some b → w'.heap[b]? = w.heap[b]?) : OwnTr w' B v ts := by
  refine ⟨h.1, ?_⟩
  rcases h.2 with h1 | ⟨g, cap, cur, rfl, hg0, hg1, h2⟩
  · exact .inl h1
  · exact .inr ⟨g, cap, cur, rfl, hg0, (hv g rfl).trans hg1, h2⟩
theorem own_max {B : Nat} {v : Value} (h : OwnTr w B v ts) : ts.length ≤ 9223372036854775807 := by
  rcases h.2 with ⟨-, h1⟩ | ⟨g, cap, cur, -, -, -, hcap, hmax, -⟩
  · omega
  · unfold maxLen at hmax; omega
theorem OwnTr.lt {B : Nat} {v : Value} (h : OwnTr w B v ts) : ∀ b, v.ownBlock = some b → B ≤ b ∧ b < w.heap.size := World.ownsRow.lt h

/-- What writes r's block, or those that are set apart, leaves all that. -/
theorem PS.chg (h : PS w0 w E aT cT ts Ls aR cR rs Ms d) {S : Nat → Prop} (hc : Chg S w w') (hS : ∀ b, S b → b = w0.heap.size + 2 ∨ E b) : PS w0 w' E aT cT ts Ls aR cR rs Ms d := by
  have hn : ∀ b, b < w.heap.size → b ≠ w0.heap.size + 2 → ¬ E b → w'.heap[b]? = w.heap[b]? := fun b hb h1 h2 => hc.block b hb fun hs => (hS b hs).elim h1 h2
  have hsz := h.sz
  have hX : ∀ b, Frz (w0.heap.size + 3) w E (.slice aT ts.length cT) (.slice aR rs.length cR) b → w'.heap[b]? = w.heap[b]? := fun b ⟨h1, h2, h3, _⟩ => hn b h2 (by omega) h3
  have hY : ∀ b, Frz (w0.heap.size + 3) w E (.slice aT ts.length cT) (.slice aR rs.length cR) b → Frz (w0.heap.size + 3) w' E (.slice aT ts.length cT) (.slice aR rs.length cR) b := fun b ⟨h1, h2, h3⟩ => ⟨h1, Nat.lt_of_lt_of_le h2 hc.size, h3⟩
  have hE1 : ¬ E (w0.heap.size + 1) := fun e => by have := (h.ex _ e).1; omega
  have hE0 : ¬ E w0.heap.size := fun e => by have := (h.ex _ e).1; omega
  refine ⟨h.t.of (hn _ (by omega) (by omega) hE1), h.z.of (hn _ (by omega) (by omega) hE0), h.ot.of fun b hb => ?_, h.ow.of fun b hb => ?_, h.ap, h.ex, h.dt.keep hX hY, h.dr.keep hX hY, ?_, Nat.le_trans hsz hc.size⟩
  · have := h.ot.lt b hb
    exact hn b this.2 (by omega) fun e => (h.ex b e).2.1 hb
  · have := h.ow.lt b hb
    exact hn b this.2 (by omega) fun e => (h.ex b e).2.2 hb
  · refine h.bl.trans (hc.below (fun k _ hk => ?_) (by omega))
    rcases hS k hk with e | e
    · omega
    · have := (h.ex k e).1; omega
theorem PS.below (h : PS w0 w E aT cT ts Ls aR cR rs Ms d) (hb : Below w.heap.size w w') : PS w0 w' E aT cT ts Ls aR cR rs Ms d := h.chg (S := fun _ => False) (Chg.of_below hb) fun _ e => e.elim
theorem PS.le (h : PS w0 w E aT cT ts Ls aR cR rs Ms d) {e : Nat} (hde : d ≤ e) : PS w0 w E aT cT ts Ls aR cR rs Ms e := ⟨h.t, h.z, h.ot, h.ow, h.ap, h.ex, h.dt.le hde, h.dr.le hde, h.bl, h.sz⟩
/-- A block that is new is set apart. -/
theorem PS.apart (h : PS w0 w (fun _ => False) aT cT ts Ls aR cR rs Ms d) (hb : Below w.heap.size w w') (ab : Nat) (hab : w.heap.size ≤ ab) : PS w0 w' (· = ab) aT cT ts Ls aR cR rs Ms d := by
  have h2 := h.below hb
  have hX : ∀ b, Frz (w0.heap.size + 3) w (fun _ => False) (.slice aT ts.length cT) (.slice aR rs.length cR) b → w'.heap[b]? = w.heap[b]? := fun b hx => hb.block b hx.2.1
  have hY : ∀ b, Frz (w0.heap.size + 3) w (fun _ => False) (.slice aT ts.length cT) (.slice aR rs.length cR) b → Frz (w0.heap.size + 3) w' (· = ab) (.slice aT ts.length cT) (.slice aR rs.length cR) b := fun b ⟨k1, k2, _, k4⟩ => ⟨k1, Nat.lt_of_lt_of_le k2 hb.size, (fun e => by omega), k4⟩
  refine ⟨h2.t, h2.z, h2.ot, h2.ow, h.ap, fun b e => ?_, h.dt.keep hX hY, h.dr.keep hX hY, h2.bl, h2.sz⟩
  subst e
  have := h.sz
  exact ⟨by omega, fun e => by have := (h.ot.lt _ e).2; omega, fun e => by have := (h.ow.lt _ e).2; omega⟩
theorem PS.drop (h : PS w0 w E aT cT ts Ls aR cR rs Ms d) : PS w0 w (fun _ => False) aT cT ts Ls aR cR rs Ms d := by
  have hY : ∀ b, Frz (w0.heap.size + 3) w E (.slice aT ts.length cT) (.slice aR rs.length cR) b → Frz (w0.heap.size + 3) w (fun _ => False) (.slice aT ts.length cT) (.slice aR rs.length cR) b := fun b ⟨k1, k2, _, k4⟩ => ⟨k1, k2, (fun e => e), k4⟩
  exact ⟨h.t, h.z, h.ot, h.ow, h.ap, fun b e => e.elim, h.dt.keep (fun _ _ => rfl) hY, h.dr.keep (fun _ _ => rfl) hY, h.bl, h.sz⟩

/-- One more part of r. -/
theorem PS.addR (h : PS w0 w E aT cT ts Ls aR cR rs Ms d) {p : TV} {L : Lang} (hp : Den d w (Frz (w0.heap.size + 3) w E (.slice aT ts.length cT) (.slice aR rs.length cR)) p L) {a' : Option Addr} {c' : Nat} {w2 : World} (hE : ∀ b, E b → b < w.heap.size)
    (hown : OwnTr w2 (w0.heap.size + 3) (.slice a' (rs.length + 1) c') (rs ++ [p])) (hg : w.grownBy w2 (Value.slice aR rs.length cR).ownBlock) (hm : (Value.slice a' (rs.length + 1) c').ownBlock = (Value.slice aR rs.length cR).ownBlock ∨ (Value.slice a' (rs.length + 1) c').ownBlock = some w.heap.size) :
    PS w0 (w2.setCell ⟨w0.heap.size + 2, 257, none⟩ (.slice a' (rs.length + 1) c')) E aT cT ts Ls a' c' (rs ++ [p]) (Ms ++ [L]) d := by
  have hsz := h.sz
  have hs2 := hg.size
  have hg3 := grownBy_setCell w2 (w0.heap.size + 2) 257 (.slice a' (rs.length + 1) c')
  have hs3 := hg3.size
  have hlen : (rs ++ [p]).length = rs.length + 1 := by simp
  have hn : ∀ b, b < w.heap.size → b ≠ w0.heap.size + 2 → (Value.slice aR rs.length cR).ownBlock ≠ some b → (w2.setCell ⟨w0.heap.size + 2, 257, none⟩ (.slice a' (rs.length + 1) c')).heap[b]? = w.heap[b]? := fun b hb h1 h2 =>
    (hg3.block b (by omega) (by simpa using h1)).trans (hg.block b hb fun e => h2 e.symm)
  have hnr : ∀ b, (Value.slice aR rs.length cR).ownBlock ≠ some b → b < w.heap.size → (Value.slice a' (rs.length + 1) c').ownBlock ≠ some b := fun b h1 h2 e => by
    rcases hm with k | k
    · exact h1 (k.symm.trans e)
    · rw [k] at e; have := Option.some.inj e; omega
  have hrl := h.ow.lt
  have htl := h.ot.lt
  have hX : ∀ b, Frz (w0.heap.size + 3) w E (.slice aT ts.length cT) (.slice aR rs.length cR) b → (w2.setCell ⟨w0.heap.size + 2, 257, none⟩ (.slice a' (rs.length + 1) c')).heap[b]? = w.heap[b]? := fun b ⟨h1, h2, _, _, h5⟩ => hn b h2 (by omega) h5
  have hY : ∀ b, Frz (w0.heap.size + 3) w E (.slice aT ts.length cT) (.slice aR rs.length cR) b → Frz (w0.heap.size + 3) (w2.setCell ⟨w0.heap.size + 2, 257, none⟩ (.slice a' (rs.length + 1) c')) E (.slice aT ts.length cT) (.slice a' (rs ++ [p]).length c') b := fun b ⟨h1, h2, h3, h4, h5⟩ => ⟨h1, by omega, h3, h4, by rw [hlen]; exact hnr b h5 h2⟩
  have hown3 : OwnTr (w2.setCell ⟨w0.heap.size + 2, 257, none⟩ (.slice a' (rs.length + 1) c')) (w0.heap.size + 3) (.slice a' (rs ++ [p]).length c') (rs ++ [p]) := by
    rw [hlen]
    exact ownsRow_setCell_below hown (by show w0.heap.size + 2 < w0.heap.size + 3; omega) _
  refine ⟨h.t.of (hn _ (by omega) (by omega) fun e => by have := (hrl _ e).1; omega), h.z.of (hn _ (by omega) (by omega) fun e => by have := (hrl _ e).1; omega), h.ot.of fun b hb => hn b (htl b hb).2 (by have := (htl b hb).1; omega) (h.ap b hb), hown3, fun b hb => by rw [hlen]; exact hnr b (h.ap b hb) (htl b hb).2, fun b e => ?_, h.dt.keep hX hY, (h.dr.snoc hp).keep hX hY, ?_, by omega⟩
  · have := h.ex b e
    exact ⟨this.1, this.2.1, by rw [hlen]; exact hnr b this.2.2 (hE b e)⟩
  · refine ⟨by rw [hg3.os, hg.os, h.bl.os], by rw [hg3.tape, hg.tape, h.bl.tape], by rw [hg3.output, hg.output, h.bl.output], by omega, fun k hk => ?_⟩
    exact (hn k (by omega) (by omega) fun e => by have := (hrl _ e).1; omega).trans (h.bl.block k hk)

/-- r becomes a part of t; there is no r any more. -/
theorem PS.addT (h : PS w0 w (fun _ => False) aT cT ts Ls aR cR rs Ms d) {a' : Option Addr} {c' : Nat} {w2 : World}
    (hown : OwnTr w2 (w0.heap.size + 3) (.slice a' (ts.length + 1) c') (ts ++ [⟨1, noneB, aR, rs.length, cR⟩])) (hg : w.grownBy w2 (Value.slice aT ts.length cT).ownBlock) (hm : (Value.slice a' (ts.length + 1) c').ownBlock = (Value.slice aT ts.length cT).ownBlock ∨ (Value.slice a' (ts.length + 1) c').ownBlock = some w.heap.size) :
    PS w0 (w2.setCell ⟨w0.heap.size + 1, 257, none⟩ (.slice a' (ts.length + 1) c')) (fun _ => False) a' c' (ts ++ [⟨1, noneB, aR, rs.length, cR⟩]) (Ls ++ [Ms.foldl catL epsL]) none 0 [] [] (d + 1) := by
  have hsz := h.sz
  have hs2 := hg.size
  have hg3 := grownBy_setCell w2 (w0.heap.size + 1) 257 (.slice a' (ts.length + 1) c')
  have hs3 := hg3.size
  have hlen : (ts ++ [(⟨1, noneB, aR, rs.length, cR⟩ : TV)]).length = ts.length + 1 := by simp
  have hn : ∀ b, b < w.heap.size → b ≠ w0.heap.size + 1 → (Value.slice aT ts.length cT).ownBlock ≠ some b → (w2.setCell ⟨w0.heap.size + 1, 257, none⟩ (.slice a' (ts.length + 1) c')).heap[b]? = w.heap[b]? := fun b hb h1 h2 =>
    (hg3.block b (by omega) (by simpa using h1)).trans (hg.block b hb fun e => h2 e.symm)
  have hnt : ∀ b, (Value.slice aT ts.length cT).ownBlock ≠ some b → b < w.heap.size → (Value.slice a' (ts.length + 1) c').ownBlock ≠ some b := fun b h1 h2 e => by
    rcases hm with k | k
    · exact h1 (k.symm.trans e)
    · rw [k] at e; have := Option.some.inj e; omega
  have hrl := h.ow.lt
  have htl := h.ot.lt
  have hX : ∀ b, Frz (w0.heap.size + 3) w (fun _ => False) (.slice aT ts.length cT) (.slice aR rs.length cR) b → (w2.setCell ⟨w0.heap.size + 1, 257, none⟩ (.slice a' (ts.length + 1) c')).heap[b]? = w.heap[b]? := fun b ⟨h1, h2, _, h4, _⟩ => hn b h2 (by omega) h4
  have hY : ∀ b, Frz (w0.heap.size + 3) w (fun _ => False) (.slice aT ts.length cT) (.slice aR rs.length cR) b → Frz (w0.heap.size + 3) (w2.setCell ⟨w0.heap.size + 1, 257, none⟩ (.slice a' (ts.length + 1) c')) (fun _ => False) (.slice a' (ts ++ [(⟨1, noneB, aR, rs.length, cR⟩ : TV)]).length c') (.slice none 0 0) b := fun b ⟨h1, h2, h3, h4, h5⟩ => ⟨h1, by omega, h3, by rw [hlen]; exact hnt b h4 h2, fun e => by cases e⟩
  have hown3 : OwnTr (w2.setCell ⟨w0.heap.size + 1, 257, none⟩ (.slice a' (ts.length + 1) c')) (w0.heap.size + 3) (.slice a' (ts ++ [(⟨1, noneB, aR, rs.length, cR⟩ : TV)]).length c') (ts ++ [⟨1, noneB, aR, rs.length, cR⟩]) := by
    rw [hlen]
    exact ownsRow_setCell_below hown (by show w0.heap.size + 1 < w0.heap.size + 3; omega) _
  have htb : TreeBlk w2 (w0.heap.size + 1) ⟨2, noneB, aT, ts.length, cT⟩ := h.t.kept hg fun e => by have := (htl _ e.symm).1; omega
  have ht3 := htb.setSl a' (ts.length + 1) c'
  have hdr := h.dr.keep hX hY
  have hrow : Den (d + 1) (w2.setCell ⟨w0.heap.size + 1, 257, none⟩ (.slice a' (ts.length + 1) c')) (Frz (w0.heap.size + 3) (w2.setCell ⟨w0.heap.size + 1, 257, none⟩ (.slice a' (ts.length + 1) c')) (fun _ => False) (.slice a' (ts ++ [(⟨1, noneB, aR, rs.length, cR⟩ : TV)]).length c') (.slice none 0 0)) ⟨1, noneB, aR, rs.length, cR⟩ (Ms.foldl catL epsL) := by
    refine .inr ⟨rs, Ms, ⟨rfl, own_max h.ow, ?_⟩, hdr.1, hdr.2, .inl ⟨rfl, fun _ => Iff.rfl⟩⟩
    show rs.length = 0 ∨ ∃ g, aR = some ⟨g, 0, none⟩ ∧ _
    rcases h.ow.2 with ⟨h1, h2⟩ | ⟨g, cap, cur, h1, hg0, hg1, hcap, hmax, hcs, htk⟩
    · exact .inl h2
    · injection h1 with e1 e2 e3
      subst e1 e3
      have hgl := hrl g rfl
      have hga : (Value.slice aT ts.length cT).ownBlock ≠ some g := fun e => h.ap g e rfl
      refine .inr ⟨g, rfl, ⟨hgl.1, by omega, (fun e => e), by rw [hlen]; exact hnt g hga hgl.2, fun e => by cases e⟩, fun i hi j hj => ?_⟩
      rw [World.cell?_of_block (w := w) (hn g hgl.2 (by omega) hga), World.ownsRow.cellAt h.ow _ (by omega), trow_get rs i hi j hj]
  refine ⟨by rw [hlen]; exact ht3, h.z.of (hn _ (by omega) (by omega) fun e => by have := (htl _ e).1; omega), hown3, World.ownsRow_nil _ _ _ _, (fun b hb e => by cases e), (fun b e => e.elim), ((h.dt.keep hX hY).le (Nat.le_succ d)).snoc hrow, Dens.nil _ _ _, ?_, by omega⟩
  refine ⟨by rw [hg3.os, hg.os, h.bl.os], by rw [hg3.tape, hg.tape, h.bl.tape], by rw [hg3.output, hg.output, h.bl.output], by omega, fun k hk => ?_⟩
  exact (hn k (by omega) (by omega) fun e => by have := (htl _ e).1; omega).trans (h.bl.block k hk)

theorem PS.tne (h : PS w0 w E aT cT ts Ls aR cR rs Ms d) (k : Nat) (hk : k < w0.heap.size + 3) : some k ≠ (Value.slice aT ts.length cT).ownBlock := fun e => by have := (h.ot.lt _ e.symm).1; omega
theorem PS.rne (h : PS w0 w E aT cT ts Ls aR cR rs Ms d) (k : Nat) (hk : k < w0.heap.size + 3) : some k ≠ (Value.slice aR rs.length cR).ownBlock := fun e => by have := (h.ow.lt _ e.symm).1; omega

/-- What t means. -/
theorem PS.tree (h : PS w0 w E aT cT ts Ls aR cR rs Ms d) : Den (d + 1) w (fun b => w0.heap.size + 3 ≤ b ∧ b < w.heap.size) ⟨2, noneB, aT, ts.length, cT⟩ (Ls.foldl altL noL) := by
  have hdt := h.dt.keep (Y := fun b => w0.heap.size + 3 ≤ b ∧ b < w.heap.size) (fun _ _ => rfl) (fun b hb => ⟨hb.1, hb.2.1⟩)
  refine .inr ⟨ts, Ls, ⟨rfl, own_max h.ot, ?_⟩, hdt.1, hdt.2, .inr (.inl ⟨rfl, fun _ => Iff.rfl⟩)⟩
  show ts.length = 0 ∨ ∃ g, aT = some ⟨g, 0, none⟩ ∧ _
  rcases h.ot.2 with ⟨h1, h2⟩ | ⟨g, cap, cur, h1, hg0, hg1, hcap, hmax, hcs, htk⟩
  · exact .inl h2
  · injection h1 with e1 e2 e3
    subst e1 e3
    have hgl := h.ot.lt g rfl
    refine .inr ⟨g, rfl, hgl, fun i hi j hj => ?_⟩
    rw [World.ownsRow.cellAt h.ot _ (by omega), trow_get ts i hi j hj]
end

theorem chg_setRow (w : World) (b : Nat) (cs : Array Value) : Chg (· = b) w (w.setRow b cs) :=
  ⟨rfl, rfl, rfl, by show _ ≤ (w.heap.modify b _).size; rw [Array.size_modify]; exact Nat.le_refl _, fun k _ hn => setRow_other w b k cs hn⟩
theorem size_setRow (w : World) (b : Nat) (cs : Array Value) : (w.setRow b cs).heap.size = w.heap.size := by show (w.heap.modify b _).size = _; rw [Array.size_modify]
theorem size_setCell (w : World) (a : Addr) (v : Value) : (w.setCell a v).heap.size = w.heap.size := by show (w.heap.modify _ _).size = _; rw [Array.size_modify]
theorem treeC_setSl (t : TV) (a : Option Addr) (n c : Nat) : (treeC t).setIfInBounds 257 (.slice a n c) = treeC { t with a := a, n := n, c := c } := by
  unfold treeC
  simp [treeL_setSl]

/-- A part with a sign behind it: its tree lies in a new block. -/
theorem den_sign {w w' : World} {X Y : Nat → Prop} {d k g c : Nat} {t : TV} {L A : Lang} (h : Den d w X t L) (hw : ∀ b, X b → w'.heap[b]? = w.heap[b]?) (hX : ∀ b, X b → Y b) (hg : Y g) (ht : TreeBlk w' g t)
    (hk : (k = 3 ∧ ∀ s, A s ↔ optL (PlusL L) s) ∨ (k = 4 ∧ ∀ s, A s ↔ PlusL L s) ∨ (k = 5 ∧ ∀ s, A s ↔ optL L s)) : Den (d + 1) w' Y ⟨k, noneB, some ⟨g, 0, none⟩, 1, c⟩ A := by
  refine .inr ⟨[t], [L], ⟨rfl, by show 1 ≤ _; decide, .inr ⟨g, rfl, hg, fun i hi j hj => ?_⟩⟩, rfl, fun i h1 h2 => ?_, .inr (.inr ⟨L, rfl, hk⟩)⟩
  · obtain rfl : i = 0 := by simpa using hi
    rw [Nat.zero_mul, Nat.zero_add, ht.cell]
    rfl
  · obtain rfl : i = 0 := by simpa using h1
    exact Den.keep hw hX d _ _ h

end Go.Proofs.YtbkejafjlapmnaaDoor
