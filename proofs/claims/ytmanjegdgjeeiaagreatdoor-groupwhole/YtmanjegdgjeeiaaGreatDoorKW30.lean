/-
  Each alert is, for each route to which it goes, in just one group of that route.
-/
import Derived.Test.YtmanjegdgjeeiaaGreatDoorKW29
import Derived.Test.YtmanjegdgjeeiaaGreatDoorKW23
namespace Go.Proofs.YtmanjegdgjeeiaaGreatDoor
open Go.RowKit Go.Maps

theorem gtells_yes {A : Prop} {e : Ending} (h : Tells A e) (hA : A) : e = .returned (.bool true) := by
  obtain ⟨b, h1, h2⟩ := h
  rw [h1, h2.2 hA]
theorem gtells_no {A : Prop} {e : Ending} (h : Tells A e) (hA : ¬ A) : e = .returned (.bool false) := by
  obtain ⟨b, h1, h2⟩ := h
  rw [h1, Bool.eq_false_iff.2 fun k => hA (h2.1 k)]
theorem VarsOk.up {w u : World} (h : VarsOk w.heap.size w) (hb : Below w.heap.size w u) : VarsOk u.heap.size u := fun w' h' => h w' (hb.trans (h'.mono hb.size))
theorem goN_snoc (W : List Pr → List Nat) (x : List Pr × Int × Int) : ∀ X : List (List Pr × Int × Int), goN W (X ++ [x]) = goN W X + (W x.1).length
  | [] => by simp [goN]
  | y :: X => by
    simp only [List.cons_append, goN, goN_snoc W x X]
    omega
theorem totGsnoc (g : Gm) : ∀ G : List Gm, totG (G ++ [g]) = totG G + g.al.length
  | [] => by simp [totG]
  | y :: G => by
    simp only [List.cons_append, totG, totGsnoc g G]
    omega
theorem goN_take {W : List Pr → List Nat} {L : List Rw} {i : Nat} (h : i < L.length) : goN W ((L.take (i + 1)).map Rw.sh) = goN W ((L.take i).map Rw.sh) + (W L[i].ps).length := by
  rw [List.take_succ_eq_append_getElem h, List.map_append, List.map_cons, List.map_nil, goN_snoc]
  rfl
theorem totGtake {G : List Gm} {i : Nat} (h : i < G.length) : totG (G.take (i + 1)) = totG (G.take i) + G[i].al.length := by
  rw [List.take_succ_eq_append_getElem h, totGsnoc]
theorem goN_le {W : List Pr → List Nat} {n : Nat} (h : ∀ ps, (W ps).length ≤ n) : ∀ X : List (List Pr × Int × Int), goN W X ≤ n * X.length
  | [] => by simp [goN]
  | x :: X => by
    have h1 := goN_le h X
    have h2 := h x.1
    simp only [goN, List.length_cons, Nat.mul_add]
    omega
theorem totGle {G : List Gm} (i : Nat) : totG (G.take i) ≤ totG G := by
  have : ∀ (i : Nat) (G : List Gm), totG (G.take i) ≤ totG G := fun i => by
    induction i with
    | zero => intro G; simp [totG]
    | succ i ih =>
      intro G
      cases G with
      | nil => simp
      | cons g G => simp only [List.take_succ_cons, totG]; have := ih G; omega
  exact this i G
theorem stepS_al {P : List Pr × Int × Int → Prop} {l : List Rt} {x : List Pr × Int × Int} {z : Nat} {G : List Gs} (h : ∀ g ∈ G, ∀ y ∈ g.al, P y) (hx : P x) : ∀ g ∈ stepS l x G z, ∀ y ∈ g.al, P y := fun g hg y hy => by
  rcases putS_mem _ _ _ G g hg with h1 | rfl | ⟨k, h1, -, rfl⟩
  · exact h g h1 y hy
  · rw [List.mem_singleton.1 hy]; exact hx
  · rcases List.mem_append.1 hy with h2 | h2
    · exact h k h1 y h2
    · rw [List.mem_singleton.1 h2]; exact hx
theorem steps_al {P : List Pr × Int × Int → Prop} {l : List Rt} {x : List Pr × Int × Int} (hx : P x) : ∀ (V : List Nat) (G : List Gs), (∀ g ∈ G, ∀ y ∈ g.al, P y) → ∀ g ∈ V.foldl (stepS l x) G, ∀ y ∈ g.al, P y
  | [], _, h => h
  | _ :: V, _, h => steps_al hx V _ (stepS_al h hx)
theorem all_al {P : List Pr × Int × Int → Prop} {l : List Rt} {W : List Pr → List Nat} : ∀ (X : List (List Pr × Int × Int)) (G : List Gs), (∀ x ∈ X, P x) → (∀ g ∈ G, ∀ y ∈ g.al, P y) → ∀ g ∈ X.foldl (oneS l W) G, ∀ y ∈ g.al, P y
  | [], _, _, h => h
  | x :: X, G, hX, h => all_al X _ (fun y hy => hX y (by simp [hy])) (steps_al (hX x (by simp)) (W x.1) G h)
def Lite (ps : List Pr) : Prop := ps.length ≤ 10 ∧ ∀ p ∈ ps, p.1.size ≤ 100 ∧ p.2.size ≤ 100
theorem Lite.pick {ps : List Pr} (h : Lite ps) (ns : List ByteArray) : Lite (pickL ps ns) := ⟨Nat.le_trans (List.length_filter_le _ _) h.1, fun p hp => h.2 p (List.mem_filter.1 hp).1⟩
theorem gm_lite {l : List Rt} {W : List Pr → List Nat} {L : List Rw} (hL : ∀ r ∈ L, RwLight r) {G : List Gm} (hp : (G.map Gm.sh).Perm (ofS l W ((sortR L).map Rw.sh))) : ∀ g ∈ G, ∀ r ∈ g.al, Lite r.ps := fun g hg r hr => by
  have h1 := all_al (P := fun x => Lite x.1) (l := l) (W := W) ((sortR L).map Rw.sh) [] (fun x hx => by
    obtain ⟨r, hr, rfl⟩ := List.mem_map.1 hx
    exact hL r ((sortR_perm L).mem_iff.1 hr)) (fun g h => by cases h)
  exact h1 g.sh (hp.mem_iff.1 (List.mem_map_of_mem hg)) r.sh (List.mem_map_of_mem hr)
theorem gm_lb {l : List Rt} {W : List Pr → List Nat} {L : List Rw} {G : List Gm} (hok : GmOk l W L G) (hl : ∀ g ∈ G, ∀ r ∈ g.al, Lite r.ps) : ∀ g ∈ G, Lite g.lb := fun g hg => by
  have h1 := hok.some g hg
  have h2 := hok.lab g hg g.al[0] (List.getElem_mem h1)
  rw [← h2]
  exact (hl g hg _ (List.getElem_mem h1)).pick _
theorem Lite.flat {ps : List Pr} (h : Lite ps) (i : Nat) (hi : i ≤ 1000) : (partsQ i ps).flatten.length ≤ 140737488355000 := by
  have := (flatQs i hi ps h.1 h.2).1
  omega
theorem GroupsAt.at {w : World} {gb : Nat} {G : List Gm} (h : GroupsAt w (some ⟨gb, 0, none⟩) G) {i : Nat} (hi : i < G.length) : w.cell? ⟨gb, i * 4, none⟩ = some (.int .i64 G[i].rt) ∧ w.cell? ⟨gb, i * 4 + 1, none⟩ = some (.slice G[i].la G[i].lb.length G[i].lc) ∧ w.cell? ⟨gb, i * 4 + 2, none⟩ = some (.string ⟨G[i].key.toArray⟩) ∧ w.cell? ⟨gb, i * 4 + 3, none⟩ = some (.slice G[i].aa G[i].al.length G[i].ac) ∧ PairsAt w G[i].la G[i].lb ∧ AlsAt w G[i].aa G[i].al := by
  obtain ⟨g, e, -, hc⟩ := h (by omega)
  obtain rfl : gb = g := by cases e; rfl
  exact hc i hi
/-- What is there behind Of. -/
structure WhSt (w u : World) (a : Option Addr) (nR c : Nat) (l : List Rt) (b : Option Addr) (mR cb : Nat) (pt rs : Int) (aL : Option Addr) (L : List Rw) (aG : Option Addr) (G : List Gm) : Prop where
  gs : GroupsAt u aG G
  rts : RtsAt u a l
  als : AlsAt u aL L
  cf : CfBlk u w.heap.size a nR c b mR cb pt rs
  tab : TabW u
  vars : VarsOk u.heap.size u
  below : Below w.heap.size w u
theorem WhSt.on {w u v : World} {a : Option Addr} {nR c : Nat} {l : List Rt} {b : Option Addr} {mR cb : Nat} {pt rs : Int} {aL : Option Addr} {L : List Rw} {aG : Option Addr} {G : List Gm} (h : WhSt w u a nR c l b mR cb pt rs aL L aG G) (q : Below u.heap.size u v) : WhSt w v a nR c l b mR cb pt rs aL L aG G :=
  ⟨h.gs.below q (Nat.le_refl _), h.rts.below q (Nat.le_refl _), h.als.below q (Nat.le_refl _), h.cf.below q, h.tab.on q h.tab.lt, h.vars.up q, h.below.trans (q.mono h.below.size)⟩

set_option maxHeartbeats 32000000 in
set_option maxRecDepth 100000 in
theorem whole_walk (a : Option Addr) (c : Nat) (l : List Rt) (b : Option Addr) (cb : Nat) (ls : List Rl) (pt rs : Int) (aL : Option Addr) (cL : Nat) (L : List Rw) (w : World) (htab : TabW w) (hvv : VarsOk w.heap.size w) (hl : RtsAt w a l) (hls : RlsAt w b ls) (okl : ∀ r ∈ l, RtOk r) (okls : ∀ r ∈ ls, RlOk r) (hn : l.length ≤ 9223372036854775807) (hm : ls.length ≤ 9223372036854775807) (hL : AlsAt w aL L) (hLn : L.length ≤ 9223372036854775807) (hLz : ∀ r ∈ L, r.ps.length ≤ 9223372036854775807 ∧ ∀ p ∈ r.ps, p.1.size ≤ 9223372036854775807 ∧ p.2.size ≤ 9223372036854775807) (n : Nat) (hnl : n = L.length) :
    Calls Tryz.prog 4 #[.agg #[.slice a l.length c, .slice b ls.length cb, .int .i64 pt, .int .i64 rs], .slice aL n cL] w fun e w' => e = .returned (.bool true) ∧ Below w.heap.size w w' := by
  have htl := htab.lt
  have HW := Lib.hid (fun u (hb : Below w.heap.size w u) => gawake_any w.heap.size u hb.size (hvv.on hb))
  have HL := Lib.hid (fun u (hb : Below w.heap.size w u) => uLight_any a c l b cb ls pt rs u (hl.below hb (Nat.le_refl _)) (hls.below hb (Nat.le_refl _)) hn hm)
  have HP := Lib.hid (fun u (hb : Below w.heap.size w u) => hLight_any aL cL L 20 u (hL.below hb (Nat.le_refl _)) hLn hLz n hnl)
  have HC := Lib.hid (fun u (hb : Below w.heap.size w u) => tCheck_any a c l b cb ls pt rs u (htab.on hb htl) (hl.below hb (Nat.le_refl _)) (hls.below hb (Nat.le_refl _)) okl okls hn hm)
  have HB0 := Lib.hid (Below.refl w.heap.size w)
  have HNL := Lib.hid hnl
  have HR := Lib.hid (And.intro hl (And.intro hls (And.intro okl (And.intro okls (And.intro hL (And.intro htab hvv))))))
  have HMs := Lib.hid hm
  have HMs2 : Hid (LightC l ls → ∀ r ∈ l, r.ms.length ≤ 9223372036854775807 ∧ r.bys.length ≤ 12) := Lib.hid (fun hLC r hr => by
    obtain ⟨i, hi, rfl⟩ := List.getElem_of_mem hr
    have := hLC.2.2.1 i hi
    omega)
  clear hl hls okl okls hL hLz hLn hvv hn hm htab htl hnl
  obtain ⟨nR, hnR⟩ : ∃ k, k = l.length := ⟨_, rfl⟩
  obtain ⟨mR, hmR⟩ : ∃ k, k = ls.length := ⟨_, rfl⟩
  have HOf := Lib.hid (fun (W : List Pr → List Nat) (hW : GoesOk l W) (hLC : LightC l ls) (hE : confE l ls pt rs = 0) (h20 : L.length ≤ 20) (hLi : ∀ r ∈ L, RwLight r) u (hb : Below w.heap.size w u) => gOf_ok a c l b cb ls pt rs aL cL L W hW u (HR.out.2.2.2.2.2.1.on hb HR.out.2.2.2.2.2.1.lt) (HR.out.2.2.2.2.2.2.up hb) (HR.out.1.below hb (Nat.le_refl _)) (HR.out.2.1.below hb (Nat.le_refl _)) HR.out.2.2.1 HR.out.2.2.2.1 hLC.1 HMs.out (fun r hr => by
      obtain ⟨i, hi, rfl⟩ := List.getElem_of_mem hr
      have := (hLC.2.2.1 i hi).2
      omega) hE (HR.out.2.2.2.2.1.below hb (Nat.le_refl _)) h20 hLi n HNL.out)
  rw [← hnR, ← hmR] at HOf HL HC ⊢
  replace hnR := Lib.hid hnR
  replace hmR := Lib.hid hmR
  have HBx := Lib.hid (And.intro (newA w (.cells #[.slice a nR c, .slice b mR cb, .int .i64 pt, .int .i64 rs] 25)) ((Below.refl w.heap.size w).alloc (Nat.le_refl _) (.cells #[.slice a nR c, .slice b mR cb, .int .i64 pt, .int .i64 rs] 25)))
  obtain ⟨w0, hw0⟩ : ∃ w0, w0 = w.alloc (.cells #[.slice a nR c, .slice b mR cb, .int .i64 pt, .int .i64 rs] 25) := ⟨_, rfl⟩
  rw [← hw0] at HBx
  have HM0 : Hid (CfBlk w0 w.heap.size a nR c b mR cb pt rs) := Lib.hid HBx.out.1
  have HB1 : Hid (Below w.heap.size w w0) := Lib.hid HBx.out.2
  clear HBx HB0
  have HL0 := Lib.hid (HL.out w0 HB1.out)
  clear HL
  have c0 := cell_heap (j := 0) HM0.out
  have c1 := cell_heap (j := 1) HM0.out
  have c2 := cell_heap (j := 2) HM0.out
  have c3 := cell_heap (j := 3) HM0.out
  simp only [List.getElem?_toArray, List.getElem?_cons_zero, List.getElem?_cons_succ] at c0 c1 c2 c3
  subst hw0
  have HCs : Hid (∀ u, CfBlk u w.heap.size a nR c b mR cb pt rs → u.cell? ⟨w.heap.size, 0, none⟩ = some (.slice a nR c) ∧ u.cell? ⟨w.heap.size, 1, none⟩ = some (.slice b mR cb) ∧ u.cell? ⟨w.heap.size, 2, none⟩ = some (.int .i64 pt) ∧ u.cell? ⟨w.heap.size, 3, none⟩ = some (.int .i64 rs)) := Lib.hid (fun u hu => ⟨cell_heap hu, cell_heap hu, cell_heap hu, cell_heap hu⟩)
  by_cases hLC : LightC l ls
  case neg =>
    have HLt := Lib.hid hLC
    clear hLC HOf HC HP
    go_enter Tryz.func4, Tryz.ntmps4
    go_wp2_with (go_at_call 6; refine HL0.out.mono ?_; rintro e w1 ⟨ht, q1⟩; obtain rfl := gtells_no ht HLt.out; clear ht; replace q1 := Lib.hid q1; refine Hid.out ?_)
    refine Lib.hid ?_
    have HBx := Lib.hid (HB1.out.trans (q1.out.mono HB1.out.size))
    go_wp2_with (go_at_call 8; refine (HW.out _ HBx.out).mono ?_; rintro e w9 ⟨rfl, q9⟩; replace q9 := Lib.hid q9; refine Hid.out ?_)
    refine Lib.hid ?_
    have HE := Lib.hid (HBx.out.trans (q9.out.mono HBx.out.size))
    go_wp2
    go_ret
    exact ⟨rfl, HE.out⟩
  have HLt := Lib.hid hLC
  have hl20 : nR ≤ 20 := by have := hnR.out; have := hLC.1; omega
  clear hLC
  cases hP : lightB L 20 with
  | false =>
    have HPl := Lib.hid (fun u (hb : Below w.heap.size w u) => HP.out u hb)
    rw [hP] at HPl
    clear HOf HC HP hP
    go_enter Tryz.func4, Tryz.ntmps4
    go_wp2_with (go_at_call 6; refine HL0.out.mono ?_; rintro e w1 ⟨ht, q1⟩; obtain rfl := gtells_yes ht HLt.out; clear ht; replace q1 := Lib.hid q1; refine Hid.out ?_)
    refine Lib.hid ?_
    have HBx := Lib.hid (HB1.out.trans (q1.out.mono HB1.out.size))
    have HP1 := Lib.hid (HPl.out w1 HBx.out)
    go_wp2_with (go_at_call 7; refine HP1.out.mono ?_; rintro e w2 ⟨rfl, rfl⟩)
    go_wp2_with (go_at_call 8; refine (HW.out _ HBx.out).mono ?_; rintro e w9 ⟨rfl, q9⟩; replace q9 := Lib.hid q9; refine Hid.out ?_)
    refine Lib.hid ?_
    have HE := Lib.hid (HBx.out.trans (q9.out.mono HBx.out.size))
    go_wp2
    go_ret
    exact ⟨rfl, HE.out⟩
  | true =>
    obtain ⟨h20, hLi⟩ := lightB_yes hP
    have h20n : n ≤ 20 := by have := HNL.out; omega
    have HLi := Lib.hid hLi
    have H20 : Hid (L.length ≤ 20) := Lib.hid (by omega)
    have HPl := Lib.hid (fun u (hb : Below w.heap.size w u) => HP.out u hb)
    rw [hP] at HPl
    clear HP hP hLi h20
    obtain ⟨E, hEe⟩ : ∃ E, E = confE l ls pt rs := ⟨_, rfl⟩
    rw [← hEe] at HC HOf
    replace hEe := Lib.hid hEe
    by_cases hE : E = 0
    case neg =>
      have hEb : ((E : Int) == 0) = false := by simpa using hE
      have hEc : ¬ ((E : Int) = 0) := by omega
      clear HOf
      go_enter Tryz.func4, Tryz.ntmps4
      go_wp2_with (go_at_call 6; refine HL0.out.mono ?_; rintro e w1 ⟨ht, q1⟩; obtain rfl := gtells_yes ht HLt.out; clear ht; replace q1 := Lib.hid q1; refine Hid.out ?_)
      refine Lib.hid ?_
      have HBy := Lib.hid (HB1.out.trans (q1.out.mono HB1.out.size))
      have HM1 := Lib.hid (HM0.out.below q1.out)
      clear c0 c1 c2 c3
      obtain ⟨c0, c1, c2, c3⟩ := HCs.out _ HM1.out
      have HP1 := Lib.hid (HPl.out w1 HBy.out)
      go_wp2_with (go_at_call 7; refine HP1.out.mono ?_; rintro e w2 ⟨rfl, rfl⟩)
      have HC1 := Lib.hid (HC.out w2 HBy.out)
      go_wp2_with (go_at_call 12; refine HC1.out.mono ?_; rintro e w3 ⟨rfl, q3⟩; replace q3 := Lib.hid q3; refine Hid.out ?_)
      refine Lib.hid ?_
      have HBx := Lib.hid (HBy.out.trans (q3.out.mono HBy.out.size))
      go_wp2_with (go_at_call 8; refine (HW.out _ HBx.out).mono ?_; rintro e w9 ⟨rfl, q9⟩; replace q9 := Lib.hid q9; refine Hid.out ?_)
      refine Lib.hid ?_
      have HE := Lib.hid (HBx.out.trans (q9.out.mono HBx.out.size))
      go_wp2
      go_ret
      exact ⟨rfl, HE.out⟩
    subst hE
    obtain ⟨W, hW⟩ := goes_ex l
    have HWo := Lib.hid hW
    have HOf1 := Lib.hid (fun u (hb : Below w.heap.size w u) => HOf.out W hW HLt.out rfl H20.out HLi.out u hb)
    clear HOf hW
    go_enter Tryz.func4, Tryz.ntmps4
    go_wp2_with (go_at_call 6; refine HL0.out.mono ?_; rintro e w1 ⟨ht, q1⟩; obtain rfl := gtells_yes ht HLt.out; clear ht; replace q1 := Lib.hid q1; refine Hid.out ?_)
    refine Lib.hid ?_
    have HBy := Lib.hid (HB1.out.trans (q1.out.mono HB1.out.size))
    have HM1 := Lib.hid (HM0.out.below q1.out)
    clear c0 c1 c2 c3
    obtain ⟨c0, c1, c2, c3⟩ := HCs.out _ HM1.out
    have HP1 := Lib.hid (HPl.out w1 HBy.out)
    go_wp2_with (go_at_call 7; refine HP1.out.mono ?_; rintro e w2 ⟨rfl, rfl⟩)
    have HC1 := Lib.hid (HC.out w2 HBy.out)
    go_wp2_with (go_at_call 12; refine HC1.out.mono ?_; rintro e w3 ⟨rfl, q3⟩; replace q3 := Lib.hid q3; refine Hid.out ?_)
    refine Lib.hid ?_
    have HBz := Lib.hid (HBy.out.trans (q3.out.mono HBy.out.size))
    have HM3 := Lib.hid (HM1.out.below q3.out)
    clear c0 c1 c2 c3 HB1 HM0 HM1 HBy HP1 HC1 HL0 HPl HC q1 q3
    obtain ⟨c0, c1, c2, c3⟩ := HCs.out _ HM3.out
    have HO3 := Lib.hid (HOf1.out w3 HBz.out)
    go_wp2_with (go_at_call 10; refine HO3.out.mono ?_; rintro e w4 ⟨aG, cG, G, he, hga, hpm, hsr, q4⟩; obtain ⟨nG, hnG⟩ : ∃ k, k = G.length := ⟨_, rfl⟩; rw [← hnG] at he; subst he; replace hnG := Lib.hid hnG; replace hga := Lib.hid hga; replace hpm := Lib.hid hpm; replace hsr := Lib.hid hsr; replace q4 := Lib.hid q4; refine Hid.out ?_)
    refine Lib.hid ?_
    have HOK := Lib.hid (gm_ok HWo.out (by have := hnR.out; omega) HLi.out hpm.out hsr.out)
    have HST : Hid (WhSt w w4 a nR c l b mR cb pt rs aL L aG G) := Lib.hid (by
      have hB := HBz.out.trans (q4.out.mono HBz.out.size)
      exact ⟨hga.out, HR.out.1.below hB (Nat.le_refl _), HR.out.2.2.2.2.1.below hB (Nat.le_refl _), HM3.out.below q4.out, HR.out.2.2.2.2.2.1.on hB HR.out.2.2.2.2.2.1.lt, HR.out.2.2.2.2.2.2.up hB, hB⟩)
    have HOkl : Hid (∀ r ∈ l, RtOk r) := Lib.hid HR.out.2.2.1
    have HFew : Hid (∀ ps, (W ps).length ≤ 420) := Lib.hid (fun ps => HWo.out.few (by have := hnR.out; omega) ps)
    have HTot : Hid (goN W (L.map Rw.sh) ≤ 8400 ∧ totG G = goN W (L.map Rw.sh)) := Lib.hid ⟨by
      have := goN_le HFew.out (L.map Rw.sh)
      rw [List.length_map] at this
      have := H20.out
      omega, HOK.out.tot⟩
    have HOkG : Hid (∀ i (hi : i < G.length), G[i].rt < l.length ∧ 0 < G[i].al.length ∧ (∀ r ∈ G[i].al, pickL r.ps (bysAt l G[i].rt) = G[i].lb) ∧ (∀ r ∈ G[i].al, r.ps.length ≤ 10) ∧ (∀ p ∈ G[i].lb, p.1.size ≤ 100 ∧ p.2.size ≤ 100) ∧ G[i].lb.length ≤ 10) := Lib.hid (fun i hi => by
      have hg := List.getElem_mem hi
      have h1 := gm_lite HLi.out hpm.out
      have h2 := gm_lb HOK.out h1 _ hg
      exact ⟨HOK.out.rt _ hg, HOK.out.some _ hg, HOK.out.lab _ hg, fun r hr => (h1 _ hg r hr).1, h2.2, h2.1⟩)
    have HOk2 : Hid (∀ i (hi : i < G.length), (partsQ (G[i].rt : Int) G[i].lb).flatten.length ≤ 140737488355000) := Lib.hid (fun i hi => (gm_lb HOK.out (gm_lite HLi.out hpm.out) _ (List.getElem_mem hi)).flat _ (by have := HOK.out.rt _ (List.getElem_mem hi); have := hnR.out; omega))
    have hnG2 : nG ≤ 8400 := by
      have h1 : ∀ G : List Gm, (∀ g ∈ G, 0 < g.al.length) → G.length ≤ totG G := fun G => by
        induction G with
        | nil => intro _; simp
        | cons g G ih =>
          intro h
          have := h g (by simp)
          have := ih (fun x hx => h x (by simp [hx]))
          simp only [totG, List.length_cons]
          omega
      have := h1 G HOK.out.some
      have := HTot.out
      have := hnG.out
      omega
    clear c0 c1 c2 c3 HO3 HOf1 hga hpm hsr q4 HBz HM3 HR
    go_wp2
    go_loopw [6, 7] (fun y x wr => ∃ (i t : Nat), i ≤ n ∧ x = .int .i64 (i : Int) ∧ y = .int .i64 (t : Int) ∧ t ≤ 420 * i ∧ Hid (t = goN W ((L.take i).map Rw.sh) ∧ WhSt w wr a nR c l b mR cb pt rs aL L aG G)) (fun _ x _ => n - (intOf x).toNat)
    case atStart => exact ⟨0, 0, Nat.zero_le _, rfl, rfl, Nat.le_refl _, Lib.hid ⟨rfl, HST.out⟩⟩
    case round =>
      clear HST
      obtain ⟨i, t, hi, rfl, rfl, ht, HS⟩ := hrel
      by_cases hlt : i < n
      case pos =>
        have hkl : (i : Int) < (n : Int) := by omega
        have hkx : i < L.length := by have := HNL.out; omega
        have HT1 := Lib.hid (goN_take (W := W) hkx)
        obtain ⟨tk, htk, hWe⟩ := HWo.out L[i].ps
        have hfw := HFew.out L[i].ps
        have HWl := Lib.hid (HLi.out L[i] (List.getElem_mem hkx))
        obtain ⟨bL, oL, rfl, hbL, hcL⟩ := HS.out.2.als (by omega)
        have HCL : Hid (∀ u, Below wr.heap.size wr u → u.cell? ⟨bL, oL + i * 3, none⟩ = some (.slice L[i].ad L[i].ps.length L[i].cp) ∧ PairsAt u L[i].ad L[i].ps) := Lib.hid (fun u hu => ⟨(hu.cell (p := ⟨bL, oL + i * 3, none⟩) hbL).trans (hcL i hkx).1, (hcL i hkx).2.2.2.below hu (Nat.le_refl _)⟩)
        clear hcL
        generalize L[i] = r at *
        obtain ⟨np, hnp⟩ : ∃ k, k = r.ps.length := ⟨_, rfl⟩
        obtain ⟨nw, hnw⟩ : ∃ k, k = (W r.ps).length := ⟨_, rfl⟩
        have HWk := Lib.hid (fun u (hu : Below wr.heap.size wr u) => tWalk_any a c l r.ad r.cp r.ps tk htk u ((HS.out.2.on hu).tab) ((HS.out.2.on hu).rts) (HCL.out u hu).2 (by have := hnR.out; omega) (fun y hy => (HMs2.out HLt.out y hy).1) (by have := HWl.out.1; omega) (fun q hq => by have := HWl.out.2 q hq; omega))
        unfold TellsInts at HWk
        rw [← hWe, ← hnw, ← hnR.out, ← hnp] at HWk
        rw [← hnw] at HT1 hfw
        rw [← hnp] at HCL
        have HC1 : Hid (∀ u, Below wr.heap.size wr u → u.cell? ⟨w.heap.size, 0, none⟩ = some (.slice a nR c) ∧ u.cell? ⟨bL, oL + i * 3, none⟩ = some (.slice r.ad np r.cp)) := Lib.hid (fun u hu => ⟨(HCs.out u ((HS.out.2.on hu).cf)).1, (HCL.out u hu).1⟩)
        have HS1 := Lib.hid HS.out.2
        have HT2 : Hid (t + nw = goN W ((L.take (i + 1)).map Rw.sh)) := Lib.hid (by rw [HT1.out, ← HS.out.1])
        clear HS HT1 HCL hWe htk hkx hbL
        replace hnp := Lib.hid hnp
        replace hnw := Lib.hid hnw
        have hsum : wrap64 ((t : Int) + (nw : Int)) = (t : Int) + (nw : Int) := by unfold wrap64; omega
        have hsum2 : IntKind.i64.wrap ((t : Int) + (nw : Int)) = (t : Int) + (nw : Int) := by rw [IntKind.wrap_i64]; omega
        go_wp2_with fail
        refine wp_region_any (by kernel_rfl) ?_
        change wpAny _ _ _ _ _ _ _ (World.drew _)
        have hS : (fun w' : World => Below wr.heap.size wr w') wr.drew := (Below.refl _ wr).drew
        refine wpAny_of_held (S := fun w' => Below wr.heap.size wr w') _ _ _ _ ?_
        refine wpAnyH_takeE (i := 0) (some 33) (v := ?_) rfl rfl (by as_aux_lemma => kernel_rfl) (by as_aux_lemma => kernel_rfl) (by as_aux_lemma => kernel_rfl) (fun _ _ _ h => h) (Or.inl ⟨by kernel_rfl, ?_⟩) hS ?_
        rotate_left
        · intro w hSw; obtain ⟨c0, d0⟩ := HC1.out _ hSw; go_simp
          first | done | with_reducible rfl
        refine wpAnyH_takeE (i := 1) (some 34) (v := ?_) rfl rfl (by as_aux_lemma => kernel_rfl) (by as_aux_lemma => kernel_rfl) (by as_aux_lemma => kernel_rfl) (fun _ _ _ h => h) (Or.inl ⟨by kernel_rfl, ?_⟩) hS ?_
        rotate_left
        · intro w hSw; obtain ⟨c0, d0⟩ := HC1.out _ hSw; go_simp
          first | done | with_reducible rfl
        refine wpAnyH_takeE (i := 2) (some 35) (v := ?_) rfl rfl (by as_aux_lemma => kernel_rfl) (by as_aux_lemma => kernel_rfl) (by as_aux_lemma => kernel_rfl) (fun _ _ _ h => h) (Or.inl ⟨by kernel_rfl, ?_⟩) hS ?_
        rotate_left
        · intro w hSw; obtain ⟨c0, d0⟩ := HC1.out _ hSw; go_simp
          first | done | with_reducible rfl
        refine wpAnyH_takeE (i := 3) (some 36) (v := ?_) rfl rfl (by as_aux_lemma => kernel_rfl) (by as_aux_lemma => kernel_rfl) (by as_aux_lemma => kernel_rfl) (fun _ _ _ h => h) (Or.inl ⟨by kernel_rfl, ?_⟩) hS ?_
        rotate_left
        · intro w hSw; obtain ⟨c0, d0⟩ := HC1.out _ hSw; go_simp
          first | done | with_reducible rfl
        refine wpAnyH_takeE (i := 4) (some 37) (v := ?_) rfl rfl (by as_aux_lemma => kernel_rfl) (by as_aux_lemma => kernel_rfl) (by as_aux_lemma => kernel_rfl) (fun _ _ _ h => h) (Or.inl ⟨by kernel_rfl, ?_⟩) hS ?_
        rotate_left
        · intro w hSw; obtain ⟨c0, d0⟩ := HC1.out _ hSw; go_simp
          first | done | with_reducible rfl
        refine wpAnyH_takeE (i := 5) (some 38) (v := ?_) rfl rfl (by as_aux_lemma => kernel_rfl) (by as_aux_lemma => kernel_rfl) (by as_aux_lemma => kernel_rfl) (fun _ _ _ h => h) (Or.inl ⟨by kernel_rfl, ?_⟩) hS ?_
        rotate_left
        · intro w hSw; obtain ⟨c0, d0⟩ := HC1.out _ hSw; go_simp
          first | done | with_reducible rfl
        refine wpAnyH_takeE (i := 6) (some 39) (v := ?_) rfl rfl (by as_aux_lemma => kernel_rfl) (by as_aux_lemma => kernel_rfl) (by as_aux_lemma => kernel_rfl) (fun _ _ _ h => h) (Or.inl ⟨by kernel_rfl, ?_⟩) hS ?_
        rotate_left
        · intro w hSw; obtain ⟨c0, d0⟩ := HC1.out _ hSw; go_simp
          first | done | with_reducible rfl
        refine wpAnyH_takeE (i := 7) (some 40) (v := ?_) rfl rfl (by as_aux_lemma => kernel_rfl) (by as_aux_lemma => kernel_rfl) (by as_aux_lemma => kernel_rfl) (fun _ _ _ h => h) (Or.inl ⟨by kernel_rfl, ?_⟩) hS ?_
        rotate_left
        · intro w hSw; obtain ⟨c0, d0⟩ := HC1.out _ hSw; go_simp
          first | done | with_reducible rfl
        refine wpAnyH_ready (rs := [8]) (by as_aux_lemma => kernel_rfl) (by simp) ?_
        refine AllReadyH.cons rfl (fun K hK => ?_) AllReadyH.nil
        go_simp
        go_wp2_with (go_at_call 13; refine (HWk.out _ hS).mono ?_; rintro e v1 ⟨⟨aw, cw, rfl, -⟩, q1⟩)
        refine hK.out _ _ ?_ (fun hS => ?_)
        · exact hS.trans (q1.mono hS.size)
        clear hK K
        refine wpAnyH_takeE (i := 9) (some 42) (v := ?_) rfl rfl (by as_aux_lemma => kernel_rfl) (by as_aux_lemma => kernel_rfl) (by as_aux_lemma => kernel_rfl) (fun _ _ _ h => h) (Or.inl ⟨by kernel_rfl, ?_⟩) hS ?_
        rotate_left
        · intro w hSw; obtain ⟨c0, d0⟩ := HC1.out _ hSw; go_simp
          first | done | with_reducible rfl
        refine wpAnyH_takeE (i := 10) (some 43) (v := ?_) rfl rfl (by as_aux_lemma => kernel_rfl) (by as_aux_lemma => kernel_rfl) (by as_aux_lemma => kernel_rfl) (fun _ _ _ h => h) (Or.inl ⟨by kernel_rfl, ?_⟩) hS ?_
        rotate_left
        · intro w hSw; obtain ⟨c0, d0⟩ := HC1.out _ hSw; go_simp
          first | done | with_reducible rfl
        refine wpAnyH_takeE (i := 11) (some 6) (v := ?_) rfl rfl (by as_aux_lemma => kernel_rfl) (by as_aux_lemma => kernel_rfl) (by as_aux_lemma => kernel_rfl) (fun _ _ _ h => h) (Or.inl ⟨by kernel_rfl, ?_⟩) hS ?_
        rotate_left
        · intro w hSw; obtain ⟨c0, d0⟩ := HC1.out _ hSw; go_simp
          first | done | with_reducible rfl
        refine wpAnyH_done (by kernel_rfl) ?_ _
        have HE : Hid (t + nw = goN W ((L.take (i + 1)).map Rw.sh) ∧ WhSt w v1 a nR c l b mR cb pt rs (some ⟨bL, oL, none⟩) L aG G) := Lib.hid ⟨HT2.out, HS1.out.on hS⟩
        clear HT2 HS1 hS q1 HC1 HWk
        go_simp
        go_wp2
        go_roundw
        case rel => exact ⟨i + 1, t + nw, by omega, by go_num, by go_num, by omega, HE⟩
        case measure => simp [intOf]; omega
      case neg =>
        have hkl : ¬ (i : Int) < (n : Int) := by omega
        have HS2 : Hid (t = totG G ∧ WhSt w wr a nR c l b mR cb pt rs aL L aG G) := Lib.hid (by
          have e : L.take i = L := List.take_of_length_le (by have := HNL.out; omega)
          have h := HS.out
          rw [e] at h
          exact ⟨h.1.trans HTot.out.2.symm, h.2⟩)
        have ht2 : t ≤ 8400 := by have := HS2.out.1; have := HTot.out; omega
        clear HS
        go_wp2
        go_loopw [6, 8] (fun y x wr => ∃ (i t : Nat), i ≤ nG ∧ x = .int .i64 (i : Int) ∧ y = .int .i64 (t : Int) ∧ t ≤ 8400 ∧ Hid (t + totG (G.take i) = totG G ∧ WhSt w wr a nR c l b mR cb pt rs aL L aG G)) (fun _ x _ => nG - (intOf x).toNat)
        case atStart => exact ⟨0, t, Nat.zero_le _, rfl, rfl, ht2, Lib.hid ⟨by rw [HS2.out.1]; simp [totG], HS2.out.2⟩⟩
        case round =>
          clear HS2 hkl hlt ht hi
          obtain ⟨i, t, hi, rfl, rfl, ht, HS⟩ := hrel
          by_cases hlt : i < nG
          case neg =>
            have hkl : ¬ (i : Int) < (nG : Int) := by omega
            have ht0 : t = 0 := by
              have e : G.take i = G := List.take_of_length_le (by have := hnG.out; omega)
              have h := HS.out.1
              rw [e] at h
              omega
            subst ht0
            have HBx := Lib.hid HS.out.2.below
            go_wp2_with (go_at_call 8; refine (HW.out _ HBx.out).mono ?_; rintro e w9 ⟨rfl, q9⟩; replace q9 := Lib.hid q9; refine Hid.out ?_)
            refine Lib.hid ?_
            have HE := Lib.hid (HBx.out.trans (q9.out.mono HBx.out.size))
            go_wp2
            go_ret
            exact ⟨rfl, HE.out⟩
          have hkl : (i : Int) < (nG : Int) := by omega
          have hkx : i < G.length := by have := hnG.out; omega
          obtain ⟨gb, rfl⟩ : ∃ gb, aG = some ⟨gb, 0, none⟩ := by
            obtain ⟨gb, e, -⟩ := HS.out.2.gs (by omega)
            exact ⟨gb, e⟩
          have HGi : Hid (∀ u, Below wr.heap.size wr u → u.cell? ⟨gb, i * 4, none⟩ = some (.int .i64 G[i].rt) ∧ u.cell? ⟨gb, i * 4 + 1, none⟩ = some (.slice G[i].la G[i].lb.length G[i].lc) ∧ u.cell? ⟨gb, i * 4 + 2, none⟩ = some (.string ⟨G[i].key.toArray⟩) ∧ u.cell? ⟨gb, i * 4 + 3, none⟩ = some (.slice G[i].aa G[i].al.length G[i].ac) ∧ PairsAt u G[i].la G[i].lb ∧ AlsAt u G[i].aa G[i].al) := Lib.hid (fun u hu => (HS.out.2.on hu).gs.at hkx)
          have HPj : Hid (∀ j, i = j + 1 → ∃ (rj : Nat) (kj : List UInt8), (rj < G[i].rt ∨ (rj = G[i].rt ∧ kj < G[i].key)) ∧ ∀ u, Below wr.heap.size wr u → u.cell? ⟨gb, j * 4, none⟩ = some (.int .i64 rj) ∧ u.cell? ⟨gb, j * 4 + 2, none⟩ = some (.string ⟨kj.toArray⟩)) := Lib.hid (fun j hj => by
            have hjx : j < G.length := by omega
            refine ⟨G[j].rt, G[j].key, List.pairwise_iff_getElem.1 HOK.out.rise j i hjx hkx (by omega), fun u hu => ?_⟩
            have h := (HS.out.2.on hu).gs.at hjx
            exact ⟨h.1, h.2.2.1⟩)
          have HT1 := Lib.hid (totGtake hkx)
          have HGm : Hid (G[i].rt < l.length ∧ 0 < G[i].al.length ∧ (∀ r ∈ G[i].al, pickL r.ps (bysAt l G[i].rt) = G[i].lb) ∧ (∀ r ∈ G[i].al, r.ps.length ≤ 10) ∧ (∀ p ∈ G[i].lb, p.1.size ≤ 100 ∧ p.2.size ≤ 100) ∧ G[i].lb.length ≤ 10) := Lib.hid (HOkG.out i hkx)
          have HTl : Hid (totG (G.take (i + 1)) ≤ totG G) := Lib.hid (totGle _)
          have hgi := HOk2.out i hkx
          generalize G[i] = g at *
          clear hkx
          obtain ⟨rt, hrt⟩ : ∃ k, k = g.rt := ⟨_, rfl⟩
          obtain ⟨ln, hln⟩ : ∃ k, k = g.lb.length := ⟨_, rfl⟩
          obtain ⟨an, han⟩ : ∃ k, k = g.al.length := ⟨_, rfl⟩
          obtain ⟨kl, hkk⟩ : ∃ k, k = g.key := ⟨_, rfl⟩
          have HKy := Lib.hid (fun u (hu : Below wr.heap.size wr u) => gKey_any (g.rt : Int) (by have := HGm.out.1; have := hnR.out; omega) (by have := HGm.out.1; have := hnR.out; omega) g.la g.lc g.lb u.heap.size u (HGi.out u hu).2.2.2.2.1 (by have := HGm.out.2.2.2.2.2; omega) (fun p hp => by have := HGm.out.2.2.2.2.1 p hp; omega) hgi (Nat.le_refl _) (HS.out.2.on hu).vars g.lb.length rfl)
          change Hid (∀ u, Below wr.heap.size wr u → Calls Tryz.prog 14 #[.int .i64 (g.rt : Int), .slice g.la g.lb.length g.lc] u fun e w' => e = .returned (.string ⟨g.key.toArray⟩) ∧ Below u.heap.size u w') at HKy
          rw [← hrt, ← hln, ← hkk] at HKy
          rw [← hrt, ← hln, ← hkk, ← han] at HGi
          rw [← hrt, ← hkk] at HPj
          rw [← han] at HT1
          have hr1 : rt < nR := by have := HGm.out.1; have := hnR.out; omega
          have ha1 : 0 < an := by have := HGm.out.2.1; omega
          have hHr := Lib.hid hrt
          have hHl := Lib.hid hln
          have hHa := Lib.hid han
          clear hrt hln han hkk hgi
          generalize hks : (⟨kl.toArray⟩ : ByteArray) = ks at *
          replace hks := Lib.hid hks
          have hr2 : ¬ ((rt : Int) < 0) := by omega
          have hr3 : ¬ ((nR : Int) ≤ (rt : Int)) := by omega
          have hr4 : ¬ (nR ≤ rt) := by omega
          have hr5 : decide (nR ≤ rt) = false := decide_eq_false hr4
          have hr6 : (rt : Int) < (nR : Int) := by omega
          have ha2 : ((an : Int) == 0) = false := by simp; omega
          have ha3 : (an == 0) = false := by simp; omega
          have ha4 : ¬ an = 0 := by omega
          have ha5 : decide (an = 0) = false := decide_eq_false ha4
          have hk1 : (ks.toList == ks.toList) = true := by simp
          have HC2 : Hid (∀ u, Below wr.heap.size wr u → u.cell? ⟨w.heap.size, 0, none⟩ = some (.slice a nR c) ∧ u.cell? ⟨gb, i * 4, none⟩ = some (.int .i64 rt) ∧ u.cell? ⟨gb, i * 4 + 1, none⟩ = some (.slice g.la ln g.lc) ∧ u.cell? ⟨gb, i * 4 + 2, none⟩ = some (.string ks) ∧ u.cell? ⟨gb, i * 4 + 3, none⟩ = some (.slice g.aa an g.ac)) := Lib.hid (fun u hu => ⟨(HCs.out u ((HS.out.2.on hu).cf)).1, (HGi.out u hu).1, (HGi.out u hu).2.1, (HGi.out u hu).2.2.1, (HGi.out u hu).2.2.2.1⟩)
          go_wp2_with fail
          refine wp_region_any (by kernel_rfl) ?_
          change wpAny _ _ _ _ _ _ _ (World.drew _)
          have hS : (fun w' : World => Below wr.heap.size wr w') wr.drew := (Below.refl _ wr).drew
          refine wpAny_of_held (S := fun w' => Below wr.heap.size wr w') _ _ _ _ ?_
          refine wpAnyH_takeE (i := 0) (some 50) (v := ?_) rfl rfl (by as_aux_lemma => kernel_rfl) (by as_aux_lemma => kernel_rfl) (by as_aux_lemma => kernel_rfl) (fun _ _ _ h => h) (Or.inl ⟨by kernel_rfl, ?_⟩) hS ?_
          rotate_left
          · intro w hSw; obtain ⟨c0, e0, e1, e2, e3⟩ := HC2.out _ hSw; go_simp
            first | done | with_reducible rfl
          refine wpAnyH_takeE (i := 1) (some 51) (v := ?_) rfl rfl (by as_aux_lemma => kernel_rfl) (by as_aux_lemma => kernel_rfl) (by as_aux_lemma => kernel_rfl) (fun _ _ _ h => h) (Or.inl ⟨by kernel_rfl, ?_⟩) hS ?_
          rotate_left
          · intro w hSw; obtain ⟨c0, e0, e1, e2, e3⟩ := HC2.out _ hSw; go_simp
            first | done | with_reducible rfl
          refine wpAnyH_takeE (i := 2) (some 52) (v := ?_) rfl rfl (by as_aux_lemma => kernel_rfl) (by as_aux_lemma => kernel_rfl) (by as_aux_lemma => kernel_rfl) (fun _ _ _ h => h) (Or.inl ⟨by kernel_rfl, ?_⟩) hS ?_
          rotate_left
          · intro w hSw; obtain ⟨c0, e0, e1, e2, e3⟩ := HC2.out _ hSw; go_simp
            first | done | with_reducible rfl
          refine wpAnyH_takeE (i := 3) (some 53) (v := ?_) rfl rfl (by as_aux_lemma => kernel_rfl) (by as_aux_lemma => kernel_rfl) (by as_aux_lemma => kernel_rfl) (fun _ _ _ h => h) (Or.inl ⟨by kernel_rfl, ?_⟩) hS ?_
          rotate_left
          · intro w hSw; obtain ⟨c0, e0, e1, e2, e3⟩ := HC2.out _ hSw; go_simp
            first | done | with_reducible rfl
          refine wpAnyH_takeE (i := 4) (some 54) (v := ?_) rfl rfl (by as_aux_lemma => kernel_rfl) (by as_aux_lemma => kernel_rfl) (by as_aux_lemma => kernel_rfl) (fun _ _ _ h => h) (Or.inl ⟨by kernel_rfl, ?_⟩) hS ?_
          rotate_left
          · intro w hSw; obtain ⟨c0, e0, e1, e2, e3⟩ := HC2.out _ hSw; go_simp
            first | done | with_reducible rfl
          refine wpAnyH_takeE (i := 5) (some 55) (v := ?_) rfl rfl (by as_aux_lemma => kernel_rfl) (by as_aux_lemma => kernel_rfl) (by as_aux_lemma => kernel_rfl) (fun _ _ _ h => h) (Or.inl ⟨by kernel_rfl, ?_⟩) hS ?_
          rotate_left
          · intro w hSw; obtain ⟨c0, e0, e1, e2, e3⟩ := HC2.out _ hSw; go_simp
            first | done | with_reducible rfl
          refine wpAnyH_takeE (i := 6) (some 56) (v := ?_) rfl rfl (by as_aux_lemma => kernel_rfl) (by as_aux_lemma => kernel_rfl) (by as_aux_lemma => kernel_rfl) (fun _ _ _ h => h) (Or.inl ⟨by kernel_rfl, ?_⟩) hS ?_
          rotate_left
          · intro w hSw; obtain ⟨c0, e0, e1, e2, e3⟩ := HC2.out _ hSw; go_simp
            first | done | with_reducible rfl
          refine wpAnyH_takeE (i := 7) (some 57) (v := ?_) rfl rfl (by as_aux_lemma => kernel_rfl) (by as_aux_lemma => kernel_rfl) (by as_aux_lemma => kernel_rfl) (fun _ _ _ h => h) (Or.inl ⟨by kernel_rfl, ?_⟩) hS ?_
          rotate_left
          · intro w hSw; obtain ⟨c0, e0, e1, e2, e3⟩ := HC2.out _ hSw; go_simp
            first | done | with_reducible rfl
          refine wpAnyH_takeE (i := 8) (some 58) (v := ?_) rfl rfl (by as_aux_lemma => kernel_rfl) (by as_aux_lemma => kernel_rfl) (by as_aux_lemma => kernel_rfl) (fun _ _ _ h => h) (Or.inl ⟨by kernel_rfl, ?_⟩) hS ?_
          rotate_left
          · intro w hSw; obtain ⟨c0, e0, e1, e2, e3⟩ := HC2.out _ hSw; go_simp
            first | done | with_reducible rfl
          refine wpAnyH_takeE (i := 9) (some 59) (v := ?_) rfl rfl (by as_aux_lemma => kernel_rfl) (by as_aux_lemma => kernel_rfl) (by as_aux_lemma => kernel_rfl) (fun _ _ _ h => h) (Or.inl ⟨by kernel_rfl, ?_⟩) hS ?_
          rotate_left
          · intro w hSw; obtain ⟨c0, e0, e1, e2, e3⟩ := HC2.out _ hSw; go_simp
            first | done | with_reducible rfl
          refine wpAnyH_takeE (i := 10) (some 60) (v := ?_) rfl rfl (by as_aux_lemma => kernel_rfl) (by as_aux_lemma => kernel_rfl) (by as_aux_lemma => kernel_rfl) (fun _ _ _ h => h) (Or.inl ⟨by kernel_rfl, ?_⟩) hS ?_
          rotate_left
          · intro w hSw; obtain ⟨c0, e0, e1, e2, e3⟩ := HC2.out _ hSw; go_simp
            first | done | with_reducible rfl
          refine wpAnyH_takeE (i := 11) (some 61) (v := ?_) rfl rfl (by as_aux_lemma => kernel_rfl) (by as_aux_lemma => kernel_rfl) (by as_aux_lemma => kernel_rfl) (fun _ _ _ h => h) (Or.inl ⟨by kernel_rfl, ?_⟩) hS ?_
          rotate_left
          · intro w hSw; obtain ⟨c0, e0, e1, e2, e3⟩ := HC2.out _ hSw; go_simp
            first | done | with_reducible rfl
          refine wpAnyH_takeE (i := 12) (some 62) (v := ?_) rfl rfl (by as_aux_lemma => kernel_rfl) (by as_aux_lemma => kernel_rfl) (by as_aux_lemma => kernel_rfl) (fun _ _ _ h => h) (Or.inl ⟨by kernel_rfl, ?_⟩) hS ?_
          rotate_left
          · intro w hSw; obtain ⟨c0, e0, e1, e2, e3⟩ := HC2.out _ hSw; go_simp
            first | done | with_reducible rfl
          refine wpAnyH_takeE (i := 13) (some 63) (v := ?_) rfl rfl (by as_aux_lemma => kernel_rfl) (by as_aux_lemma => kernel_rfl) (by as_aux_lemma => kernel_rfl) (fun _ _ _ h => h) (Or.inl ⟨by kernel_rfl, ?_⟩) hS ?_
          rotate_left
          · intro w hSw; obtain ⟨c0, e0, e1, e2, e3⟩ := HC2.out _ hSw; go_simp
            first | done | with_reducible rfl
          refine wpAnyH_takeE (i := 14) (some 64) (v := ?_) rfl rfl (by as_aux_lemma => kernel_rfl) (by as_aux_lemma => kernel_rfl) (by as_aux_lemma => kernel_rfl) (fun _ _ _ h => h) (Or.inl ⟨by kernel_rfl, ?_⟩) hS ?_
          rotate_left
          · intro w hSw; obtain ⟨c0, e0, e1, e2, e3⟩ := HC2.out _ hSw; go_simp
            first | done | with_reducible rfl
          refine wpAnyH_takeE (i := 15) (some 65) (v := ?_) rfl rfl (by as_aux_lemma => kernel_rfl) (by as_aux_lemma => kernel_rfl) (by as_aux_lemma => kernel_rfl) (fun _ _ _ h => h) (Or.inl ⟨by kernel_rfl, ?_⟩) hS ?_
          rotate_left
          · intro w hSw; obtain ⟨c0, e0, e1, e2, e3⟩ := HC2.out _ hSw; go_simp
            first | done | with_reducible rfl
          refine wpAnyH_takeE (i := 16) (some 66) (v := ?_) rfl rfl (by as_aux_lemma => kernel_rfl) (by as_aux_lemma => kernel_rfl) (by as_aux_lemma => kernel_rfl) (fun _ _ _ h => h) (Or.inl ⟨by kernel_rfl, ?_⟩) hS ?_
          rotate_left
          · intro w hSw; obtain ⟨c0, e0, e1, e2, e3⟩ := HC2.out _ hSw; go_simp
            first | done | with_reducible rfl
          refine wpAnyH_takeE (i := 17) (some 67) (v := ?_) rfl rfl (by as_aux_lemma => kernel_rfl) (by as_aux_lemma => kernel_rfl) (by as_aux_lemma => kernel_rfl) (fun _ _ _ h => h) (Or.inl ⟨by kernel_rfl, ?_⟩) hS ?_
          rotate_left
          · intro w hSw; obtain ⟨c0, e0, e1, e2, e3⟩ := HC2.out _ hSw; go_simp
            first | done | with_reducible rfl
          refine wpAnyH_takeE (i := 18) (some 68) (v := ?_) rfl rfl (by as_aux_lemma => kernel_rfl) (by as_aux_lemma => kernel_rfl) (by as_aux_lemma => kernel_rfl) (fun _ _ _ h => h) (Or.inl ⟨by kernel_rfl, ?_⟩) hS ?_
          rotate_left
          · intro w hSw; obtain ⟨c0, e0, e1, e2, e3⟩ := HC2.out _ hSw; go_simp
            first | done | with_reducible rfl
          refine wpAnyH_takeE (i := 19) (some 69) (v := ?_) rfl rfl (by as_aux_lemma => kernel_rfl) (by as_aux_lemma => kernel_rfl) (by as_aux_lemma => kernel_rfl) (fun _ _ _ h => h) (Or.inl ⟨by kernel_rfl, ?_⟩) hS ?_
          rotate_left
          · intro w hSw; obtain ⟨c0, e0, e1, e2, e3⟩ := HC2.out _ hSw; go_simp
            first | done | with_reducible rfl
          refine wpAnyH_takeE (i := 20) (some 70) (v := ?_) rfl rfl (by as_aux_lemma => kernel_rfl) (by as_aux_lemma => kernel_rfl) (by as_aux_lemma => kernel_rfl) (fun _ _ _ h => h) (Or.inl ⟨by kernel_rfl, ?_⟩) hS ?_
          rotate_left
          · intro w hSw; obtain ⟨c0, e0, e1, e2, e3⟩ := HC2.out _ hSw; go_simp
            first | done | with_reducible rfl
          refine wpAnyH_takeE (i := 21) (some 71) (v := ?_) rfl rfl (by as_aux_lemma => kernel_rfl) (by as_aux_lemma => kernel_rfl) (by as_aux_lemma => kernel_rfl) (fun _ _ _ h => h) (Or.inl ⟨by kernel_rfl, ?_⟩) hS ?_
          rotate_left
          · intro w hSw; obtain ⟨c0, e0, e1, e2, e3⟩ := HC2.out _ hSw; go_simp
            first | done | with_reducible rfl
          refine wpAnyH_takeE (i := 22) (some 72) (v := ?_) rfl rfl (by as_aux_lemma => kernel_rfl) (by as_aux_lemma => kernel_rfl) (by as_aux_lemma => kernel_rfl) (fun _ _ _ h => h) (Or.inl ⟨by kernel_rfl, ?_⟩) hS ?_
          rotate_left
          · intro w hSw; obtain ⟨c0, e0, e1, e2, e3⟩ := HC2.out _ hSw; go_simp
            first | done | with_reducible rfl
          refine wpAnyH_takeE (i := 23) (some 73) (v := ?_) rfl rfl (by as_aux_lemma => kernel_rfl) (by as_aux_lemma => kernel_rfl) (by as_aux_lemma => kernel_rfl) (fun _ _ _ h => h) (Or.inl ⟨by kernel_rfl, ?_⟩) hS ?_
          rotate_left
          · intro w hSw; obtain ⟨c0, e0, e1, e2, e3⟩ := HC2.out _ hSw; go_simp
            first | done | with_reducible rfl
          refine wpAnyH_takeE (i := 24) (some 74) (v := ?_) rfl rfl (by as_aux_lemma => kernel_rfl) (by as_aux_lemma => kernel_rfl) (by as_aux_lemma => kernel_rfl) (fun _ _ _ h => h) (Or.inl ⟨by kernel_rfl, ?_⟩) hS ?_
          rotate_left
          · intro w hSw; obtain ⟨c0, e0, e1, e2, e3⟩ := HC2.out _ hSw; go_simp
            first | done | with_reducible rfl
          refine wpAnyH_takeE (i := 25) (some 75) (v := ?_) rfl rfl (by as_aux_lemma => kernel_rfl) (by as_aux_lemma => kernel_rfl) (by as_aux_lemma => kernel_rfl) (fun _ _ _ h => h) (Or.inl ⟨by kernel_rfl, ?_⟩) hS ?_
          rotate_left
          · intro w hSw; obtain ⟨c0, e0, e1, e2, e3⟩ := HC2.out _ hSw; go_simp
            first | done | with_reducible rfl
          refine wpAnyH_takeE (i := 26) (some 76) (v := ?_) rfl rfl (by as_aux_lemma => kernel_rfl) (by as_aux_lemma => kernel_rfl) (by as_aux_lemma => kernel_rfl) (fun _ _ _ h => h) (Or.inl ⟨by kernel_rfl, ?_⟩) hS ?_
          rotate_left
          · intro w hSw; obtain ⟨c0, e0, e1, e2, e3⟩ := HC2.out _ hSw; go_simp
            first | done | with_reducible rfl
          refine wpAnyH_takeE (i := 27) (some 77) (v := ?_) rfl rfl (by as_aux_lemma => kernel_rfl) (by as_aux_lemma => kernel_rfl) (by as_aux_lemma => kernel_rfl) (fun _ _ _ h => h) (Or.inl ⟨by kernel_rfl, ?_⟩) hS ?_
          rotate_left
          · intro w hSw; obtain ⟨c0, e0, e1, e2, e3⟩ := HC2.out _ hSw; go_simp
            first | done | with_reducible rfl
          refine wpAnyH_takeE (i := 28) (some 78) (v := ?_) rfl rfl (by as_aux_lemma => kernel_rfl) (by as_aux_lemma => kernel_rfl) (by as_aux_lemma => kernel_rfl) (fun _ _ _ h => h) (Or.inl ⟨by kernel_rfl, ?_⟩) hS ?_
          rotate_left
          · intro w hSw; obtain ⟨c0, e0, e1, e2, e3⟩ := HC2.out _ hSw; go_simp
            first | done | with_reducible rfl
          refine wpAnyH_takeE (i := 29) (some 79) (v := ?_) rfl rfl (by as_aux_lemma => kernel_rfl) (by as_aux_lemma => kernel_rfl) (by as_aux_lemma => kernel_rfl) (fun _ _ _ h => h) (Or.inl ⟨by kernel_rfl, ?_⟩) hS ?_
          rotate_left
          · intro w hSw; obtain ⟨c0, e0, e1, e2, e3⟩ := HC2.out _ hSw; go_simp
            first | done | with_reducible rfl
          refine wpAnyH_takeE (i := 30) (some 80) (v := ?_) rfl rfl (by as_aux_lemma => kernel_rfl) (by as_aux_lemma => kernel_rfl) (by as_aux_lemma => kernel_rfl) (fun _ _ _ h => h) (Or.inl ⟨by kernel_rfl, ?_⟩) hS ?_
          rotate_left
          · intro w hSw; obtain ⟨c0, e0, e1, e2, e3⟩ := HC2.out _ hSw; go_simp
            first | done | with_reducible rfl
          refine wpAnyH_takeE (i := 31) (some 81) (v := ?_) rfl rfl (by as_aux_lemma => kernel_rfl) (by as_aux_lemma => kernel_rfl) (by as_aux_lemma => kernel_rfl) (fun _ _ _ h => h) (Or.inl ⟨by kernel_rfl, ?_⟩) hS ?_
          rotate_left
          · intro w hSw; obtain ⟨c0, e0, e1, e2, e3⟩ := HC2.out _ hSw; go_simp
            first | done | with_reducible rfl
          refine wpAnyH_takeE (i := 32) (some 82) (v := ?_) rfl rfl (by as_aux_lemma => kernel_rfl) (by as_aux_lemma => kernel_rfl) (by as_aux_lemma => kernel_rfl) (fun _ _ _ h => h) (Or.inl ⟨by kernel_rfl, ?_⟩) hS ?_
          rotate_left
          · intro w hSw; obtain ⟨c0, e0, e1, e2, e3⟩ := HC2.out _ hSw; go_simp
            first | done | with_reducible rfl
          refine wpAnyH_takeE (i := 33) (some 83) (v := ?_) rfl rfl (by as_aux_lemma => kernel_rfl) (by as_aux_lemma => kernel_rfl) (by as_aux_lemma => kernel_rfl) (fun _ _ _ h => h) (Or.inl ⟨by kernel_rfl, ?_⟩) hS ?_
          rotate_left
          · intro w hSw; obtain ⟨c0, e0, e1, e2, e3⟩ := HC2.out _ hSw; go_simp
            first | done | with_reducible rfl
          refine wpAnyH_takeE (i := 34) (some 84) (v := ?_) rfl rfl (by as_aux_lemma => kernel_rfl) (by as_aux_lemma => kernel_rfl) (by as_aux_lemma => kernel_rfl) (fun _ _ _ h => h) (Or.inl ⟨by kernel_rfl, ?_⟩) hS ?_
          rotate_left
          · intro w hSw; obtain ⟨c0, e0, e1, e2, e3⟩ := HC2.out _ hSw; go_simp
            first | done | with_reducible rfl
          refine wpAnyH_takeE (i := 35) (some 85) (v := ?_) rfl rfl (by as_aux_lemma => kernel_rfl) (by as_aux_lemma => kernel_rfl) (by as_aux_lemma => kernel_rfl) (fun _ _ _ h => h) (Or.inl ⟨by kernel_rfl, ?_⟩) hS ?_
          rotate_left
          · intro w hSw; obtain ⟨c0, e0, e1, e2, e3⟩ := HC2.out _ hSw; go_simp
            first | done | with_reducible rfl
          refine wpAnyH_takeE (i := 36) (some 86) (v := ?_) rfl rfl (by as_aux_lemma => kernel_rfl) (by as_aux_lemma => kernel_rfl) (by as_aux_lemma => kernel_rfl) (fun _ _ _ h => h) (Or.inl ⟨by kernel_rfl, ?_⟩) hS ?_
          rotate_left
          · intro w hSw; obtain ⟨c0, e0, e1, e2, e3⟩ := HC2.out _ hSw; go_simp
            first | done | with_reducible rfl
          refine wpAnyH_takeE (i := 37) (some 87) (v := ?_) rfl rfl (by as_aux_lemma => kernel_rfl) (by as_aux_lemma => kernel_rfl) (by as_aux_lemma => kernel_rfl) (fun _ _ _ h => h) (Or.inl ⟨by kernel_rfl, ?_⟩) hS ?_
          rotate_left
          · intro w hSw; obtain ⟨c0, e0, e1, e2, e3⟩ := HC2.out _ hSw; go_simp
            first | done | with_reducible rfl
          refine wpAnyH_takeE (i := 38) (some 88) (v := ?_) rfl rfl (by as_aux_lemma => kernel_rfl) (by as_aux_lemma => kernel_rfl) (by as_aux_lemma => kernel_rfl) (fun _ _ _ h => h) (Or.inl ⟨by kernel_rfl, ?_⟩) hS ?_
          rotate_left
          · intro w hSw; obtain ⟨c0, e0, e1, e2, e3⟩ := HC2.out _ hSw; go_simp
            first | done | with_reducible rfl
          refine wpAnyH_takeE (i := 39) (some 89) (v := ?_) rfl rfl (by as_aux_lemma => kernel_rfl) (by as_aux_lemma => kernel_rfl) (by as_aux_lemma => kernel_rfl) (fun _ _ _ h => h) (Or.inl ⟨by kernel_rfl, ?_⟩) hS ?_
          rotate_left
          · intro w hSw; obtain ⟨c0, e0, e1, e2, e3⟩ := HC2.out _ hSw; go_simp
            first | done | with_reducible rfl
          refine wpAnyH_takeE (i := 40) (some 90) (v := ?_) rfl rfl (by as_aux_lemma => kernel_rfl) (by as_aux_lemma => kernel_rfl) (by as_aux_lemma => kernel_rfl) (fun _ _ _ h => h) (Or.inl ⟨by kernel_rfl, ?_⟩) hS ?_
          rotate_left
          · intro w hSw; obtain ⟨c0, e0, e1, e2, e3⟩ := HC2.out _ hSw; go_simp
            first | done | with_reducible rfl
          refine wpAnyH_takeE (i := 41) (some 91) (v := ?_) rfl rfl (by as_aux_lemma => kernel_rfl) (by as_aux_lemma => kernel_rfl) (by as_aux_lemma => kernel_rfl) (fun _ _ _ h => h) (Or.inl ⟨by kernel_rfl, ?_⟩) hS ?_
          rotate_left
          · intro w hSw; obtain ⟨c0, e0, e1, e2, e3⟩ := HC2.out _ hSw; go_simp
            first | done | with_reducible rfl
          refine wpAnyH_ready (rs := [42]) (by as_aux_lemma => kernel_rfl) (by simp) ?_
          refine AllReadyH.cons rfl (fun K hK => ?_) AllReadyH.nil
          go_simp
          go_wp2_with (go_at_call 14; refine (HKy.out _ hS).mono ?_; rintro e v1 ⟨rfl, q1⟩)
          refine hK.out _ _ ?_ (fun hS => ?_)
          · exact hS.trans (q1.mono hS.size)
          clear hK K
          refine wpAnyH_takeE (i := 43) (some 93) (v := ?_) rfl rfl (by as_aux_lemma => kernel_rfl) (by as_aux_lemma => kernel_rfl) (by as_aux_lemma => kernel_rfl) (fun _ _ _ h => h) (Or.inl ⟨by kernel_rfl, ?_⟩) hS ?_
          rotate_left
          · intro w hSw; obtain ⟨c0, e0, e1, e2, e3⟩ := HC2.out _ hSw; go_simp
            first | done | with_reducible rfl
          refine wpAnyH_takeE (i := 44) (some 94) (v := ?_) rfl rfl (by as_aux_lemma => kernel_rfl) (by as_aux_lemma => kernel_rfl) (by as_aux_lemma => kernel_rfl) (fun _ _ _ h => h) (Or.inl ⟨by kernel_rfl, ?_⟩) hS ?_
          rotate_left
          · intro w hSw; obtain ⟨c0, e0, e1, e2, e3⟩ := HC2.out _ hSw; go_simp
            first | done | with_reducible rfl
          refine wpAnyH_done (by kernel_rfl) ?_ _
          have hB1 := Lib.hid hS
          have HS1 := Lib.hid (HS.out.2.on hS)
          obtain ⟨c0, e0, e1, e2, e3⟩ := HC2.out _ hS
          have HTt := Lib.hid HS.out.1
          have han8 : an ≤ 8400 := by have := HTt.out; have := HT1.out; have := HTl.out; omega
          clear HS hS q1 HKy
          go_simp
          go_wp2
          go_loopw [9] (fun x wr3 => ∃ (k : Nat), k ≤ an ∧ x = .int .i64 (k : Int) ∧ Hid (Below v1.heap.size v1 wr3)) (fun x _ => an - (intOf x).toNat)
          case atStart => exact ⟨0, Nat.zero_le _, rfl, Lib.hid (Below.refl _ _)⟩
          case round =>
            clear c0 e0 e1 e2 e3
            obtain ⟨k, hk, rfl, HB3⟩ := hrel
            have hBw : Hid (Below v1.heap.size v1 wr) := HB3
            have HC3 : Hid (∀ u, Below wr.heap.size wr u → u.cell? ⟨w.heap.size, 0, none⟩ = some (.slice a nR c) ∧ u.cell? ⟨gb, i * 4, none⟩ = some (.int .i64 rt) ∧ u.cell? ⟨gb, i * 4 + 1, none⟩ = some (.slice g.la ln g.lc) ∧ u.cell? ⟨gb, i * 4 + 2, none⟩ = some (.string ks) ∧ u.cell? ⟨gb, i * 4 + 3, none⟩ = some (.slice g.aa an g.ac)) := Lib.hid (fun u hu => HC2.out u (hB1.out.trans ((HB3.out.trans (hu.mono HB3.out.size)).mono hB1.out.size)))
            have HA3 : Hid (∀ u, Below wr.heap.size wr u → PairsAt u g.la g.lb ∧ AlsAt u g.aa g.al) := Lib.hid (fun u hu => by
              have h := HGi.out u (hB1.out.trans ((HB3.out.trans (hu.mono HB3.out.size)).mono hB1.out.size))
              exact ⟨h.2.2.2.2.1, h.2.2.2.2.2⟩)
            have HSr := Lib.hid (HS1.out.on HB3.out)
            obtain ⟨c0, e0, e1, e2, e3⟩ := HC3.out _ (Below.refl _ _)
            by_cases hkl3 : k < an
            case pos =>
              have hkl4 : (k : Int) < (an : Int) := by omega
              have hkx : k < g.al.length := by have := hHa.out; omega
              obtain ⟨bA, oA, hbA⟩ : ∃ bA oA, g.aa = some ⟨bA, oA, none⟩ := by
                obtain ⟨bA, oA, e, -⟩ := (HA3.out _ (Below.refl _ _)).2 (by omega)
                exact ⟨bA, oA, e⟩
              have HAk : Hid (∀ u, Below wr.heap.size wr u → u.cell? ⟨bA, oA + k * 3, none⟩ = some (.slice g.al[k].ad g.al[k].ps.length g.al[k].cp) ∧ PairsAt u g.al[k].ad g.al[k].ps) := Lib.hid (fun u hu => by
                have h := (HA3.out u hu).2
                rw [hbA] at h
                obtain ⟨x, y, e, -, hc⟩ := h (by omega)
                obtain ⟨rfl, rfl⟩ : bA = x ∧ oA = y := by cases e; exact ⟨rfl, rfl⟩
                exact ⟨(hc k hkx).1, (hc k hkx).2.2.2⟩)
              have HRk : Hid (pickL g.al[k].ps (bysAt l g.rt) = g.lb ∧ g.al[k].ps.length ≤ 10) := Lib.hid ⟨HGm.out.2.2.1 _ (List.getElem_mem hkx), HGm.out.2.2.2.1 _ (List.getElem_mem hkx)⟩
              generalize g.al[k] = r at *
              clear hkx
              obtain ⟨bR, oR, ba, bn, bc, ha0, HRt⟩ : ∃ bR oR ba bn bc, a = some ⟨bR, oR, none⟩ ∧ Hid (bn = (bysAt l rt).length ∧ bn ≤ 12 ∧ ∀ u, Below wr.heap.size wr u → u.cell? ⟨bR, oR + rt * 8 + 3, none⟩ = some (.slice ba bn bc) ∧ TextsAt u ba (bysAt l rt)) := by
                have hrl : rt < l.length := by have := hnR.out; omega
                obtain ⟨bR, oR, e, -, hc⟩ := HSr.out.rts (by omega)
                refine ⟨bR, oR, l[rt].ba, l[rt].bys.length, l[rt].bc, e, Lib.hid ⟨by rw [bysAt_eq hrl], (HLt.out.2.2.1 rt hrl).2, fun u hu => ?_⟩⟩
                have h2 := (HSr.out.on hu).rts
                rw [e] at h2
                obtain ⟨x, y, e2, -, hc2⟩ := h2 (by omega)
                obtain ⟨rfl, rfl⟩ : bR = x ∧ oR = y := by cases e2; exact ⟨rfl, rfl⟩
                refine ⟨(hc2 rt hrl).1 3 _ rfl, ?_⟩
                rw [bysAt_eq hrl]
                intro hn
                obtain ⟨sb, so, e3, -, h⟩ := (hc2 rt hrl).2.2 hn
                exact ⟨sb, so, e3, h⟩
              obtain ⟨rn, hrn⟩ : ∃ z, z = r.ps.length := ⟨_, rfl⟩
              have HPk := Lib.hid (fun u (hu : Below wr.heap.size wr u) => Pick_any r.ad ba r.cp bc r.ps (bysAt l rt) u (HAk.out u hu).2 (HRt.out.2.2 u hu).2 (by have := HRk.out.2; omega) (by have := HRt.out.1; have := HRt.out.2.1; omega) rn hrn bn HRt.out.1)
              rw [hHr.out, HRk.out.1, ← hHl.out] at HPk
              have HSa := Lib.hid (fun (x : Option Addr) (d : Nat) u (hx : PairsAt u x g.lb) (hu : Below wr.heap.size wr u) => Same_any x g.la d g.lc g.lb g.lb u hx (HA3.out u hu).1 (by have := HGm.out.2.2.2.2.2; omega) ln ln hHl.out hHl.out)
              rw [decide_eq_true rfl] at HSa
              rw [← hrn] at HAk
              have HC4 : Hid (∀ u, Below wr.heap.size wr u → u.cell? ⟨w.heap.size, 0, none⟩ = some (.slice (some ⟨bR, oR, none⟩) nR c) ∧ u.cell? ⟨gb, i * 4, none⟩ = some (.int .i64 rt) ∧ u.cell? ⟨gb, i * 4 + 1, none⟩ = some (.slice g.la ln g.lc) ∧ u.cell? ⟨gb, i * 4 + 3, none⟩ = some (.slice (some ⟨bA, oA, none⟩) an g.ac) ∧ u.cell? ⟨bA, oA + k * 3, none⟩ = some (.slice r.ad rn r.cp) ∧ u.cell? ⟨bR, oR + rt * 8 + 3, none⟩ = some (.slice ba bn bc)) := Lib.hid (fun u hu => by
                obtain ⟨h0, h1, h2, -, h4⟩ := HC3.out u hu
                exact ⟨by rw [← ha0]; exact h0, h1, h2, by rw [← hbA]; exact h4, (HAk.out u hu).1, (HRt.out.2.2 u hu).1⟩)
              rw [hbA] at e3
              rw [ha0] at c0
              replace hbA := Lib.hid hbA
              replace ha0 := Lib.hid ha0
              replace hrn := Lib.hid hrn
              go_wp2_with fail
              refine wp_region_any (by kernel_rfl) ?_
              change wpAny _ _ _ _ _ _ _ (World.drew _)
              have hS : (fun w' : World => Below wr.heap.size wr w') wr.drew := (Below.refl _ wr).drew
              refine wpAny_of_held (S := fun w' => Below wr.heap.size wr w') _ _ _ _ ?_
              refine wpAnyH_takeE (i := 0) (some 105) (v := ?_) rfl rfl (by as_aux_lemma => kernel_rfl) (by as_aux_lemma => kernel_rfl) (by as_aux_lemma => kernel_rfl) (fun _ _ _ h => h) (Or.inl ⟨by kernel_rfl, ?_⟩) hS ?_
              rotate_left
              · intro w hSw; obtain ⟨c0, e0, e1, e3, f0, f1⟩ := HC4.out _ hSw; go_simp
                first | done | with_reducible rfl
              refine wpAnyH_takeE (i := 1) (some 106) (v := ?_) rfl rfl (by as_aux_lemma => kernel_rfl) (by as_aux_lemma => kernel_rfl) (by as_aux_lemma => kernel_rfl) (fun _ _ _ h => h) (Or.inl ⟨by kernel_rfl, ?_⟩) hS ?_
              rotate_left
              · intro w hSw; obtain ⟨c0, e0, e1, e3, f0, f1⟩ := HC4.out _ hSw; go_simp
                first | done | with_reducible rfl
              refine wpAnyH_takeE (i := 2) (some 107) (v := ?_) rfl rfl (by as_aux_lemma => kernel_rfl) (by as_aux_lemma => kernel_rfl) (by as_aux_lemma => kernel_rfl) (fun _ _ _ h => h) (Or.inl ⟨by kernel_rfl, ?_⟩) hS ?_
              rotate_left
              · intro w hSw; obtain ⟨c0, e0, e1, e3, f0, f1⟩ := HC4.out _ hSw; go_simp
                first | done | with_reducible rfl
              refine wpAnyH_takeE (i := 3) (some 108) (v := ?_) rfl rfl (by as_aux_lemma => kernel_rfl) (by as_aux_lemma => kernel_rfl) (by as_aux_lemma => kernel_rfl) (fun _ _ _ h => h) (Or.inl ⟨by kernel_rfl, ?_⟩) hS ?_
              rotate_left
              · intro w hSw; obtain ⟨c0, e0, e1, e3, f0, f1⟩ := HC4.out _ hSw; go_simp
                first | done | with_reducible rfl
              refine wpAnyH_takeE (i := 4) (some 109) (v := ?_) rfl rfl (by as_aux_lemma => kernel_rfl) (by as_aux_lemma => kernel_rfl) (by as_aux_lemma => kernel_rfl) (fun _ _ _ h => h) (Or.inl ⟨by kernel_rfl, ?_⟩) hS ?_
              rotate_left
              · intro w hSw; obtain ⟨c0, e0, e1, e3, f0, f1⟩ := HC4.out _ hSw; go_simp
                first | done | with_reducible rfl
              refine wpAnyH_takeE (i := 5) (some 110) (v := ?_) rfl rfl (by as_aux_lemma => kernel_rfl) (by as_aux_lemma => kernel_rfl) (by as_aux_lemma => kernel_rfl) (fun _ _ _ h => h) (Or.inl ⟨by kernel_rfl, ?_⟩) hS ?_
              rotate_left
              · intro w hSw; obtain ⟨c0, e0, e1, e3, f0, f1⟩ := HC4.out _ hSw; go_simp
                first | done | with_reducible rfl
              refine wpAnyH_takeE (i := 6) (some 111) (v := ?_) rfl rfl (by as_aux_lemma => kernel_rfl) (by as_aux_lemma => kernel_rfl) (by as_aux_lemma => kernel_rfl) (fun _ _ _ h => h) (Or.inl ⟨by kernel_rfl, ?_⟩) hS ?_
              rotate_left
              · intro w hSw; obtain ⟨c0, e0, e1, e3, f0, f1⟩ := HC4.out _ hSw; go_simp
                first | done | with_reducible rfl
              refine wpAnyH_takeE (i := 7) (some 112) (v := ?_) rfl rfl (by as_aux_lemma => kernel_rfl) (by as_aux_lemma => kernel_rfl) (by as_aux_lemma => kernel_rfl) (fun _ _ _ h => h) (Or.inl ⟨by kernel_rfl, ?_⟩) hS ?_
              rotate_left
              · intro w hSw; obtain ⟨c0, e0, e1, e3, f0, f1⟩ := HC4.out _ hSw; go_simp
                first | done | with_reducible rfl
              refine wpAnyH_takeE (i := 8) (some 113) (v := ?_) rfl rfl (by as_aux_lemma => kernel_rfl) (by as_aux_lemma => kernel_rfl) (by as_aux_lemma => kernel_rfl) (fun _ _ _ h => h) (Or.inl ⟨by kernel_rfl, ?_⟩) hS ?_
              rotate_left
              · intro w hSw; obtain ⟨c0, e0, e1, e3, f0, f1⟩ := HC4.out _ hSw; go_simp
                first | done | with_reducible rfl
              refine wpAnyH_takeE (i := 9) (some 114) (v := ?_) rfl rfl (by as_aux_lemma => kernel_rfl) (by as_aux_lemma => kernel_rfl) (by as_aux_lemma => kernel_rfl) (fun _ _ _ h => h) (Or.inl ⟨by kernel_rfl, ?_⟩) hS ?_
              rotate_left
              · intro w hSw; obtain ⟨c0, e0, e1, e3, f0, f1⟩ := HC4.out _ hSw; go_simp
                first | done | with_reducible rfl
              refine wpAnyH_takeE (i := 10) (some 115) (v := ?_) rfl rfl (by as_aux_lemma => kernel_rfl) (by as_aux_lemma => kernel_rfl) (by as_aux_lemma => kernel_rfl) (fun _ _ _ h => h) (Or.inl ⟨by kernel_rfl, ?_⟩) hS ?_
              rotate_left
              · intro w hSw; obtain ⟨c0, e0, e1, e3, f0, f1⟩ := HC4.out _ hSw; go_simp
                first | done | with_reducible rfl
              refine wpAnyH_takeE (i := 11) (some 116) (v := ?_) rfl rfl (by as_aux_lemma => kernel_rfl) (by as_aux_lemma => kernel_rfl) (by as_aux_lemma => kernel_rfl) (fun _ _ _ h => h) (Or.inl ⟨by kernel_rfl, ?_⟩) hS ?_
              rotate_left
              · intro w hSw; obtain ⟨c0, e0, e1, e3, f0, f1⟩ := HC4.out _ hSw; go_simp
                first | done | with_reducible rfl
              refine wpAnyH_takeE (i := 12) (some 117) (v := ?_) rfl rfl (by as_aux_lemma => kernel_rfl) (by as_aux_lemma => kernel_rfl) (by as_aux_lemma => kernel_rfl) (fun _ _ _ h => h) (Or.inl ⟨by kernel_rfl, ?_⟩) hS ?_
              rotate_left
              · intro w hSw; obtain ⟨c0, e0, e1, e3, f0, f1⟩ := HC4.out _ hSw; go_simp
                first | done | with_reducible rfl
              refine wpAnyH_takeE (i := 13) (some 118) (v := ?_) rfl rfl (by as_aux_lemma => kernel_rfl) (by as_aux_lemma => kernel_rfl) (by as_aux_lemma => kernel_rfl) (fun _ _ _ h => h) (Or.inl ⟨by kernel_rfl, ?_⟩) hS ?_
              rotate_left
              · intro w hSw; obtain ⟨c0, e0, e1, e3, f0, f1⟩ := HC4.out _ hSw; go_simp
                first | done | with_reducible rfl
              refine wpAnyH_takeE (i := 14) (some 119) (v := ?_) rfl rfl (by as_aux_lemma => kernel_rfl) (by as_aux_lemma => kernel_rfl) (by as_aux_lemma => kernel_rfl) (fun _ _ _ h => h) (Or.inl ⟨by kernel_rfl, ?_⟩) hS ?_
              rotate_left
              · intro w hSw; obtain ⟨c0, e0, e1, e3, f0, f1⟩ := HC4.out _ hSw; go_simp
                first | done | with_reducible rfl
              refine wpAnyH_takeE (i := 15) (some 120) (v := ?_) rfl rfl (by as_aux_lemma => kernel_rfl) (by as_aux_lemma => kernel_rfl) (by as_aux_lemma => kernel_rfl) (fun _ _ _ h => h) (Or.inl ⟨by kernel_rfl, ?_⟩) hS ?_
              rotate_left
              · intro w hSw; obtain ⟨c0, e0, e1, e3, f0, f1⟩ := HC4.out _ hSw; go_simp
                first | done | with_reducible rfl
              refine wpAnyH_takeE (i := 16) (some 121) (v := ?_) rfl rfl (by as_aux_lemma => kernel_rfl) (by as_aux_lemma => kernel_rfl) (by as_aux_lemma => kernel_rfl) (fun _ _ _ h => h) (Or.inl ⟨by kernel_rfl, ?_⟩) hS ?_
              rotate_left
              · intro w hSw; obtain ⟨c0, e0, e1, e3, f0, f1⟩ := HC4.out _ hSw; go_simp
                first | done | with_reducible rfl
              refine wpAnyH_takeE (i := 17) (some 122) (v := ?_) rfl rfl (by as_aux_lemma => kernel_rfl) (by as_aux_lemma => kernel_rfl) (by as_aux_lemma => kernel_rfl) (fun _ _ _ h => h) (Or.inl ⟨by kernel_rfl, ?_⟩) hS ?_
              rotate_left
              · intro w hSw; obtain ⟨c0, e0, e1, e3, f0, f1⟩ := HC4.out _ hSw; go_simp
                first | done | with_reducible rfl
              refine wpAnyH_takeE (i := 18) (some 123) (v := ?_) rfl rfl (by as_aux_lemma => kernel_rfl) (by as_aux_lemma => kernel_rfl) (by as_aux_lemma => kernel_rfl) (fun _ _ _ h => h) (Or.inl ⟨by kernel_rfl, ?_⟩) hS ?_
              rotate_left
              · intro w hSw; obtain ⟨c0, e0, e1, e3, f0, f1⟩ := HC4.out _ hSw; go_simp
                first | done | with_reducible rfl
              refine wpAnyH_takeE (i := 20) (some 125) (v := ?_) rfl rfl (by as_aux_lemma => kernel_rfl) (by as_aux_lemma => kernel_rfl) (by as_aux_lemma => kernel_rfl) (fun _ _ _ h => h) (Or.inl ⟨by kernel_rfl, ?_⟩) hS ?_
              rotate_left
              · intro w hSw; obtain ⟨c0, e0, e1, e3, f0, f1⟩ := HC4.out _ hSw; go_simp
                first | done | with_reducible rfl
              refine wpAnyH_takeE (i := 21) (some 126) (v := ?_) rfl rfl (by as_aux_lemma => kernel_rfl) (by as_aux_lemma => kernel_rfl) (by as_aux_lemma => kernel_rfl) (fun _ _ _ h => h) (Or.inl ⟨by kernel_rfl, ?_⟩) hS ?_
              rotate_left
              · intro w hSw; obtain ⟨c0, e0, e1, e3, f0, f1⟩ := HC4.out _ hSw; go_simp
                first | done | with_reducible rfl
              refine wpAnyH_takeE (i := 22) (some 127) (v := ?_) rfl rfl (by as_aux_lemma => kernel_rfl) (by as_aux_lemma => kernel_rfl) (by as_aux_lemma => kernel_rfl) (fun _ _ _ h => h) (Or.inl ⟨by kernel_rfl, ?_⟩) hS ?_
              rotate_left
              · intro w hSw; obtain ⟨c0, e0, e1, e3, f0, f1⟩ := HC4.out _ hSw; go_simp
                first | done | with_reducible rfl
              refine wpAnyH_takeE (i := 23) (some 128) (v := ?_) rfl rfl (by as_aux_lemma => kernel_rfl) (by as_aux_lemma => kernel_rfl) (by as_aux_lemma => kernel_rfl) (fun _ _ _ h => h) (Or.inl ⟨by kernel_rfl, ?_⟩) hS ?_
              rotate_left
              · intro w hSw; obtain ⟨c0, e0, e1, e3, f0, f1⟩ := HC4.out _ hSw; go_simp
                first | done | with_reducible rfl
              refine wpAnyH_takeE (i := 24) (some 129) (v := ?_) rfl rfl (by as_aux_lemma => kernel_rfl) (by as_aux_lemma => kernel_rfl) (by as_aux_lemma => kernel_rfl) (fun _ _ _ h => h) (Or.inl ⟨by kernel_rfl, ?_⟩) hS ?_
              rotate_left
              · intro w hSw; obtain ⟨c0, e0, e1, e3, f0, f1⟩ := HC4.out _ hSw; go_simp
                first | done | with_reducible rfl
              refine wpAnyH_ready (rs := [19]) (by as_aux_lemma => kernel_rfl) (by simp) ?_
              refine AllReadyH.cons rfl (fun K hK => ?_) AllReadyH.nil
              go_simp
              go_wp2_with (go_at_call 16; refine (HPk.out _ hS).mono ?_; rintro e v2 ⟨aP, cP, rfl, hoP, q2⟩)
              refine hK.out _ _ ?_ (fun hS => ?_)
              · exact hS.trans (q2.mono hS.size)
              clear hK K
              have HSb := Lib.hid (HSa.out aP cP v2 hoP.at hS)
              clear hoP
              refine wpAnyH_ready (rs := [25]) (by as_aux_lemma => kernel_rfl) (by simp) ?_
              refine AllReadyH.cons rfl (fun K hK => ?_) AllReadyH.nil
              go_simp
              go_wp2_with (go_at_call 15; refine HSb.out.mono ?_; rintro e v3 ⟨rfl, q3⟩)
              refine hK.out _ _ ?_ (fun hS => ?_)
              · exact hS.trans (q3.mono hS.size)
              clear hK K
              refine wpAnyH_takeE (i := 26) (some 131) (v := ?_) rfl rfl (by as_aux_lemma => kernel_rfl) (by as_aux_lemma => kernel_rfl) (by as_aux_lemma => kernel_rfl) (fun _ _ _ h => h) (Or.inl ⟨by kernel_rfl, ?_⟩) hS ?_
              rotate_left
              · intro w hSw; obtain ⟨c0, e0, e1, e3, f0, f1⟩ := HC4.out _ hSw; go_simp
                first | done | with_reducible rfl
              refine wpAnyH_done (by kernel_rfl) ?_ _
              have HE := Lib.hid (HB3.out.trans (hS.mono HB3.out.size))
              clear hS q2 q3 HSb HSa HPk HC4 HRt HRk HAk HC3 HA3 HSr HB3
              go_simp
              go_wp2
              go_roundw
              case rel => exact ⟨k + 1, by omega, by go_num, HE⟩
              case measure => simp [intOf]; omega
            case neg =>
              have hkl4 : ¬ (k : Int) < (an : Int) := by omega
              obtain ⟨t1, ht1⟩ : ∃ t1, t = t1 + an := ⟨t - an, by have := HTt.out; have := HT1.out; have := HTl.out; omega⟩
              have HTn : Hid (t1 + totG (G.take (i + 1)) = totG G) := Lib.hid (by have := HTt.out; have := HT1.out; omega)
              have hsub : wrap64 ((t : Int) - (an : Int)) = (t1 : Int) := by unfold wrap64; omega
              have hsub2 : IntKind.i64.wrap ((t : Int) - (an : Int)) = (t1 : Int) := by rw [IntKind.wrap_i64]; omega
              have ht3 : t1 ≤ 8400 := by omega
              clear ht1 HA3 HTt HT1 HTl
              by_cases hi0 : i = 0
              case pos =>
                subst hi0
                have hi1 : ¬ (0 : Int) < ((0 : Nat) : Int) := by omega
                clear HPj
                go_wp2_with fail
                refine wp_region_any (by kernel_rfl) ?_
                change wpAny _ _ _ _ _ _ _ (World.drew _)
                have hS : (fun w' : World => Below wr.heap.size wr w') wr.drew := (Below.refl _ wr).drew
                refine wpAny_of_held (S := fun w' => Below wr.heap.size wr w') _ _ _ _ ?_
                refine wpAnyH_takeE (i := 0) (some 140) (v := ?_) rfl rfl (by as_aux_lemma => kernel_rfl) (by as_aux_lemma => kernel_rfl) (by as_aux_lemma => kernel_rfl) (fun _ _ _ h => h) (Or.inl ⟨by kernel_rfl, ?_⟩) hS ?_
                rotate_left
                · intro w hSw; obtain ⟨c0, e0, e1, e2, e3⟩ := HC3.out _ hSw; go_simp
                  first | done | with_reducible rfl
                refine wpAnyH_takeE (i := 1) (some 141) (v := ?_) rfl rfl (by as_aux_lemma => kernel_rfl) (by as_aux_lemma => kernel_rfl) (by as_aux_lemma => kernel_rfl) (fun _ _ _ h => h) (Or.inl ⟨by kernel_rfl, ?_⟩) hS ?_
                rotate_left
                · intro w hSw; obtain ⟨c0, e0, e1, e2, e3⟩ := HC3.out _ hSw; go_simp
                  first | done | with_reducible rfl
                refine wpAnyH_takeE (i := 2) (some 142) (v := ?_) rfl rfl (by as_aux_lemma => kernel_rfl) (by as_aux_lemma => kernel_rfl) (by as_aux_lemma => kernel_rfl) (fun _ _ _ h => h) (Or.inl ⟨by kernel_rfl, ?_⟩) hS ?_
                rotate_left
                · intro w hSw; obtain ⟨c0, e0, e1, e2, e3⟩ := HC3.out _ hSw; go_simp
                  first | done | with_reducible rfl
                refine wpAnyH_takeE (i := 3) (some 143) (v := undef) rfl rfl (by as_aux_lemma => kernel_rfl) (by as_aux_lemma => kernel_rfl) (by as_aux_lemma => kernel_rfl) (fun _ _ _ h => h) (Or.inr ⟨by kernel_rfl, rfl⟩) hS ?_
                refine wpAnyH_takeE (i := 4) (some 144) (v := undef) rfl rfl (by as_aux_lemma => kernel_rfl) (by as_aux_lemma => kernel_rfl) (by as_aux_lemma => kernel_rfl) (fun _ _ _ h => h) (Or.inr ⟨by kernel_rfl, rfl⟩) hS ?_
                refine wpAnyH_takeE (i := 5) (some 145) (v := undef) rfl rfl (by as_aux_lemma => kernel_rfl) (by as_aux_lemma => kernel_rfl) (by as_aux_lemma => kernel_rfl) (fun _ _ _ h => h) (Or.inr ⟨by kernel_rfl, rfl⟩) hS ?_
                refine wpAnyH_takeE (i := 6) (some 146) (v := undef) rfl rfl (by as_aux_lemma => kernel_rfl) (by as_aux_lemma => kernel_rfl) (by as_aux_lemma => kernel_rfl) (fun _ _ _ h => h) (Or.inr ⟨by kernel_rfl, rfl⟩) hS ?_
                refine wpAnyH_takeE (i := 7) (some 147) (v := undef) rfl rfl (by as_aux_lemma => kernel_rfl) (by as_aux_lemma => kernel_rfl) (by as_aux_lemma => kernel_rfl) (fun _ _ _ h => h) (Or.inr ⟨by kernel_rfl, rfl⟩) hS ?_
                refine wpAnyH_takeE (i := 8) (some 148) (v := undef) rfl rfl (by as_aux_lemma => kernel_rfl) (by as_aux_lemma => kernel_rfl) (by as_aux_lemma => kernel_rfl) (fun _ _ _ h => h) (Or.inr ⟨by kernel_rfl, rfl⟩) hS ?_
                refine wpAnyH_takeE (i := 9) (some 149) (v := undef) rfl rfl (by as_aux_lemma => kernel_rfl) (by as_aux_lemma => kernel_rfl) (by as_aux_lemma => kernel_rfl) (fun _ _ _ h => h) (Or.inr ⟨by kernel_rfl, rfl⟩) hS ?_
                refine wpAnyH_takeE (i := 10) (some 150) (v := undef) rfl rfl (by as_aux_lemma => kernel_rfl) (by as_aux_lemma => kernel_rfl) (by as_aux_lemma => kernel_rfl) (fun _ _ _ h => h) (Or.inr ⟨by kernel_rfl, rfl⟩) hS ?_
                refine wpAnyH_takeE (i := 11) (some 151) (v := undef) rfl rfl (by as_aux_lemma => kernel_rfl) (by as_aux_lemma => kernel_rfl) (by as_aux_lemma => kernel_rfl) (fun _ _ _ h => h) (Or.inr ⟨by kernel_rfl, rfl⟩) hS ?_
                refine wpAnyH_takeE (i := 12) (some 152) (v := undef) rfl rfl (by as_aux_lemma => kernel_rfl) (by as_aux_lemma => kernel_rfl) (by as_aux_lemma => kernel_rfl) (fun _ _ _ h => h) (Or.inr ⟨by kernel_rfl, rfl⟩) hS ?_
                refine wpAnyH_takeE (i := 13) (some 153) (v := undef) rfl rfl (by as_aux_lemma => kernel_rfl) (by as_aux_lemma => kernel_rfl) (by as_aux_lemma => kernel_rfl) (fun _ _ _ h => h) (Or.inr ⟨by kernel_rfl, rfl⟩) hS ?_
                refine wpAnyH_takeE (i := 14) (some 154) (v := undef) rfl rfl (by as_aux_lemma => kernel_rfl) (by as_aux_lemma => kernel_rfl) (by as_aux_lemma => kernel_rfl) (fun _ _ _ h => h) (Or.inr ⟨by kernel_rfl, rfl⟩) hS ?_
                refine wpAnyH_takeE (i := 15) (some 155) (v := undef) rfl rfl (by as_aux_lemma => kernel_rfl) (by as_aux_lemma => kernel_rfl) (by as_aux_lemma => kernel_rfl) (fun _ _ _ h => h) (Or.inr ⟨by kernel_rfl, rfl⟩) hS ?_
                refine wpAnyH_takeE (i := 16) (some 156) (v := undef) rfl rfl (by as_aux_lemma => kernel_rfl) (by as_aux_lemma => kernel_rfl) (by as_aux_lemma => kernel_rfl) (fun _ _ _ h => h) (Or.inr ⟨by kernel_rfl, rfl⟩) hS ?_
                refine wpAnyH_takeE (i := 17) (some 157) (v := undef) rfl rfl (by as_aux_lemma => kernel_rfl) (by as_aux_lemma => kernel_rfl) (by as_aux_lemma => kernel_rfl) (fun _ _ _ h => h) (Or.inr ⟨by kernel_rfl, rfl⟩) hS ?_
                refine wpAnyH_takeE (i := 18) (some 158) (v := undef) rfl rfl (by as_aux_lemma => kernel_rfl) (by as_aux_lemma => kernel_rfl) (by as_aux_lemma => kernel_rfl) (fun _ _ _ h => h) (Or.inr ⟨by kernel_rfl, rfl⟩) hS ?_
                refine wpAnyH_takeE (i := 19) (some 159) (v := undef) rfl rfl (by as_aux_lemma => kernel_rfl) (by as_aux_lemma => kernel_rfl) (by as_aux_lemma => kernel_rfl) (fun _ _ _ h => h) (Or.inr ⟨by kernel_rfl, rfl⟩) hS ?_
                refine wpAnyH_takeE (i := 20) (some 160) (v := undef) rfl rfl (by as_aux_lemma => kernel_rfl) (by as_aux_lemma => kernel_rfl) (by as_aux_lemma => kernel_rfl) (fun _ _ _ h => h) (Or.inr ⟨by kernel_rfl, rfl⟩) hS ?_
                refine wpAnyH_takeE (i := 21) (some 161) (v := undef) rfl rfl (by as_aux_lemma => kernel_rfl) (by as_aux_lemma => kernel_rfl) (by as_aux_lemma => kernel_rfl) (fun _ _ _ h => h) (Or.inr ⟨by kernel_rfl, rfl⟩) hS ?_
                refine wpAnyH_takeE (i := 22) (some 162) (v := undef) rfl rfl (by as_aux_lemma => kernel_rfl) (by as_aux_lemma => kernel_rfl) (by as_aux_lemma => kernel_rfl) (fun _ _ _ h => h) (Or.inr ⟨by kernel_rfl, rfl⟩) hS ?_
                refine wpAnyH_takeE (i := 23) (some 163) (v := undef) rfl rfl (by as_aux_lemma => kernel_rfl) (by as_aux_lemma => kernel_rfl) (by as_aux_lemma => kernel_rfl) (fun _ _ _ h => h) (Or.inr ⟨by kernel_rfl, rfl⟩) hS ?_
                refine wpAnyH_takeE (i := 24) (some 164) (v := undef) rfl rfl (by as_aux_lemma => kernel_rfl) (by as_aux_lemma => kernel_rfl) (by as_aux_lemma => kernel_rfl) (fun _ _ _ h => h) (Or.inr ⟨by kernel_rfl, rfl⟩) hS ?_
                refine wpAnyH_takeE (i := 25) (some 165) (v := undef) rfl rfl (by as_aux_lemma => kernel_rfl) (by as_aux_lemma => kernel_rfl) (by as_aux_lemma => kernel_rfl) (fun _ _ _ h => h) (Or.inr ⟨by kernel_rfl, rfl⟩) hS ?_
                refine wpAnyH_takeE (i := 26) (some 166) (v := undef) rfl rfl (by as_aux_lemma => kernel_rfl) (by as_aux_lemma => kernel_rfl) (by as_aux_lemma => kernel_rfl) (fun _ _ _ h => h) (Or.inr ⟨by kernel_rfl, rfl⟩) hS ?_
                refine wpAnyH_takeE (i := 27) (some 167) (v := undef) rfl rfl (by as_aux_lemma => kernel_rfl) (by as_aux_lemma => kernel_rfl) (by as_aux_lemma => kernel_rfl) (fun _ _ _ h => h) (Or.inr ⟨by kernel_rfl, rfl⟩) hS ?_
                refine wpAnyH_takeE (i := 28) (some 168) (v := undef) rfl rfl (by as_aux_lemma => kernel_rfl) (by as_aux_lemma => kernel_rfl) (by as_aux_lemma => kernel_rfl) (fun _ _ _ h => h) (Or.inr ⟨by kernel_rfl, rfl⟩) hS ?_
                refine wpAnyH_takeE (i := 29) (some 169) (v := undef) rfl rfl (by as_aux_lemma => kernel_rfl) (by as_aux_lemma => kernel_rfl) (by as_aux_lemma => kernel_rfl) (fun _ _ _ h => h) (Or.inr ⟨by kernel_rfl, rfl⟩) hS ?_
                refine wpAnyH_takeE (i := 30) (some 170) (v := undef) rfl rfl (by as_aux_lemma => kernel_rfl) (by as_aux_lemma => kernel_rfl) (by as_aux_lemma => kernel_rfl) (fun _ _ _ h => h) (Or.inr ⟨by kernel_rfl, rfl⟩) hS ?_
                refine wpAnyH_takeE (i := 31) (some 171) (v := undef) rfl rfl (by as_aux_lemma => kernel_rfl) (by as_aux_lemma => kernel_rfl) (by as_aux_lemma => kernel_rfl) (fun _ _ _ h => h) (Or.inr ⟨by kernel_rfl, rfl⟩) hS ?_
                refine wpAnyH_takeE (i := 32) (some 172) (v := undef) rfl rfl (by as_aux_lemma => kernel_rfl) (by as_aux_lemma => kernel_rfl) (by as_aux_lemma => kernel_rfl) (fun _ _ _ h => h) (Or.inr ⟨by kernel_rfl, rfl⟩) hS ?_
                refine wpAnyH_takeE (i := 33) (some 173) (v := undef) rfl rfl (by as_aux_lemma => kernel_rfl) (by as_aux_lemma => kernel_rfl) (by as_aux_lemma => kernel_rfl) (fun _ _ _ h => h) (Or.inr ⟨by kernel_rfl, rfl⟩) hS ?_
                refine wpAnyH_takeE (i := 34) (some 174) (v := undef) rfl rfl (by as_aux_lemma => kernel_rfl) (by as_aux_lemma => kernel_rfl) (by as_aux_lemma => kernel_rfl) (fun _ _ _ h => h) (Or.inr ⟨by kernel_rfl, rfl⟩) hS ?_
                refine wpAnyH_takeE (i := 35) (some 175) (v := undef) rfl rfl (by as_aux_lemma => kernel_rfl) (by as_aux_lemma => kernel_rfl) (by as_aux_lemma => kernel_rfl) (fun _ _ _ h => h) (Or.inr ⟨by kernel_rfl, rfl⟩) hS ?_
                refine wpAnyH_takeE (i := 36) (some 176) (v := undef) rfl rfl (by as_aux_lemma => kernel_rfl) (by as_aux_lemma => kernel_rfl) (by as_aux_lemma => kernel_rfl) (fun _ _ _ h => h) (Or.inr ⟨by kernel_rfl, rfl⟩) hS ?_
                refine wpAnyH_takeE (i := 37) (some 177) (v := undef) rfl rfl (by as_aux_lemma => kernel_rfl) (by as_aux_lemma => kernel_rfl) (by as_aux_lemma => kernel_rfl) (fun _ _ _ h => h) (Or.inr ⟨by kernel_rfl, rfl⟩) hS ?_
                refine wpAnyH_takeE (i := 38) (some 178) (v := undef) rfl rfl (by as_aux_lemma => kernel_rfl) (by as_aux_lemma => kernel_rfl) (by as_aux_lemma => kernel_rfl) (fun _ _ _ h => h) (Or.inr ⟨by kernel_rfl, rfl⟩) hS ?_
                refine wpAnyH_takeE (i := 39) (some 179) (v := undef) rfl rfl (by as_aux_lemma => kernel_rfl) (by as_aux_lemma => kernel_rfl) (by as_aux_lemma => kernel_rfl) (fun _ _ _ h => h) (Or.inr ⟨by kernel_rfl, rfl⟩) hS ?_
                refine wpAnyH_takeE (i := 40) (some 180) (v := undef) rfl rfl (by as_aux_lemma => kernel_rfl) (by as_aux_lemma => kernel_rfl) (by as_aux_lemma => kernel_rfl) (fun _ _ _ h => h) (Or.inr ⟨by kernel_rfl, rfl⟩) hS ?_
                refine wpAnyH_takeE (i := 41) (some 181) (v := undef) rfl rfl (by as_aux_lemma => kernel_rfl) (by as_aux_lemma => kernel_rfl) (by as_aux_lemma => kernel_rfl) (fun _ _ _ h => h) (Or.inr ⟨by kernel_rfl, rfl⟩) hS ?_
                refine wpAnyH_takeE (i := 42) (some 182) (v := undef) rfl rfl (by as_aux_lemma => kernel_rfl) (by as_aux_lemma => kernel_rfl) (by as_aux_lemma => kernel_rfl) (fun _ _ _ h => h) (Or.inr ⟨by kernel_rfl, rfl⟩) hS ?_
                refine wpAnyH_takeE (i := 43) (some 183) (v := ?_) rfl rfl (by as_aux_lemma => kernel_rfl) (by as_aux_lemma => kernel_rfl) (by as_aux_lemma => kernel_rfl) (fun _ _ _ h => h) (Or.inl ⟨by kernel_rfl, ?_⟩) hS ?_
                rotate_left
                · intro w hSw; obtain ⟨c0, e0, e1, e2, e3⟩ := HC3.out _ hSw; go_simp
                  first | done | with_reducible rfl
                refine wpAnyH_done (by kernel_rfl) ?_ _
                have HE : Hid (t1 + totG (G.take (0 + 1)) = totG G ∧ WhSt w wr.drew a nR c l b mR cb pt rs aL L (some ⟨gb, 0, none⟩) G) := Lib.hid ⟨HTn.out, HSr.out.on hS⟩
                clear hS HSr HC3 HB3
                go_simp
                go_wp2
                go_roundw
                case rel => exact ⟨0 + 1, t1, by omega, by go_num, by first | rfl | go_num | (simp; omega), ht3, HE⟩
                case measure => simp [intOf]; omega
              case neg =>
                obtain ⟨j, hj⟩ : ∃ j, i = j + 1 := ⟨i - 1, by omega⟩
                obtain ⟨rj, kj, hord, hcj⟩ := HPj.out j hj
                have hi1 : (0 : Int) < (i : Int) := by omega
                have hi2 : 0 < i := by omega
                have hi3 : decide (0 < i) = true := decide_eq_true hi2
                have hij : (i : Int) - 1 = (j : Int) := by omega
                have hjn : (j : Int) < (nG : Int) := by omega
                have hjw : IntKind.i64.wrap (j : Int) = (j : Int) := by rw [IntKind.wrap_i64]; omega
                have hjw2 : wrap64 (j : Int) = (j : Int) := by unfold wrap64; omega
                have HJ0 : Hid (∀ u, Below wr.heap.size wr u → u.cell? ⟨gb, j * 4, none⟩ = some (.int .i64 rj) ∧ u.cell? ⟨gb, j * 4 + 2, none⟩ = some (.string ⟨kj.toArray⟩)) := Lib.hid (fun u hu => hcj u (hB1.out.trans ((HB3.out.trans (hu.mono HB3.out.size)).mono hB1.out.size)))
                clear HPj hcj hj
                have HOr := Lib.hid hord
                have HBl : Hid (rj = rt → Op.bytesLess ks.toList (⟨kj.toArray⟩ : ByteArray).toList = false ∧ (ks.toList == (⟨kj.toArray⟩ : ByteArray).toList) = false) := Lib.hid (fun e => by
                  have hlt2 : kj < kl := by
                    rcases HOr.out with h | h
                    · omega
                    · exact h.2
                  rw [← hks.out]
                  refine ⟨by rw [less_eq]; exact decide_eq_false (fun h => List.lt_irrefl _ (List.lt_trans (by simpa using h) hlt2)), ?_⟩
                  rw [str_beq]
                  simp only [decide_eq_false_iff_not]
                  intro e2
                  have e3 : kl = kj := by
                    have := congrArg (fun b : ByteArray => b.data.toList) e2
                    simpa using this
                  rw [e3] at hlt2
                  exact List.lt_irrefl _ hlt2)
                generalize (⟨kj.toArray⟩ : ByteArray) = kb at *
                by_cases hrr : rj = rt
                case pos =>
                  subst hrr
                  obtain ⟨hb1, hb2⟩ := HBl.out rfl
                  have HJ := HJ0
                  have hq1 : ¬ (rj : Int) < (rj : Int) := by omega
                  clear HJ0 HBl HOr hord
                  go_wp2_with fail
                  refine wp_region_any (by kernel_rfl) ?_
                  change wpAny _ _ _ _ _ _ _ (World.drew _)
                  have hS : (fun w' : World => Below wr.heap.size wr w') wr.drew := (Below.refl _ wr).drew
                  refine wpAny_of_held (S := fun w' => Below wr.heap.size wr w') _ _ _ _ ?_
                  refine wpAnyH_takeE (i := 0) (some 140) (v := ?_) rfl rfl (by as_aux_lemma => kernel_rfl) (by as_aux_lemma => kernel_rfl) (by as_aux_lemma => kernel_rfl) (fun _ _ _ h => h) (Or.inl ⟨by kernel_rfl, ?_⟩) hS ?_
                  rotate_left
                  · intro w hSw; obtain ⟨c0, e0, e1, e2, e3⟩ := HC3.out _ hSw; obtain ⟨p0, p2⟩ := HJ.out _ hSw; go_simp
                    first | done | with_reducible rfl
                  refine wpAnyH_takeE (i := 1) (some 141) (v := ?_) rfl rfl (by as_aux_lemma => kernel_rfl) (by as_aux_lemma => kernel_rfl) (by as_aux_lemma => kernel_rfl) (fun _ _ _ h => h) (Or.inl ⟨by kernel_rfl, ?_⟩) hS ?_
                  rotate_left
                  · intro w hSw; obtain ⟨c0, e0, e1, e2, e3⟩ := HC3.out _ hSw; obtain ⟨p0, p2⟩ := HJ.out _ hSw; go_simp
                    first | done | with_reducible rfl
                  refine wpAnyH_takeE (i := 2) (some 142) (v := ?_) rfl rfl (by as_aux_lemma => kernel_rfl) (by as_aux_lemma => kernel_rfl) (by as_aux_lemma => kernel_rfl) (fun _ _ _ h => h) (Or.inl ⟨by kernel_rfl, ?_⟩) hS ?_
                  rotate_left
                  · intro w hSw; obtain ⟨c0, e0, e1, e2, e3⟩ := HC3.out _ hSw; obtain ⟨p0, p2⟩ := HJ.out _ hSw; go_simp
                    first | done | with_reducible rfl
                  refine wpAnyH_takeE (i := 3) (some 143) (v := ?_) rfl rfl (by as_aux_lemma => kernel_rfl) (by as_aux_lemma => kernel_rfl) (by as_aux_lemma => kernel_rfl) (fun _ _ _ h => h) (Or.inl ⟨by kernel_rfl, ?_⟩) hS ?_
                  rotate_left
                  · intro w hSw; obtain ⟨c0, e0, e1, e2, e3⟩ := HC3.out _ hSw; obtain ⟨p0, p2⟩ := HJ.out _ hSw; go_simp
                    first | done | with_reducible rfl
                  refine wpAnyH_takeE (i := 4) (some 144) (v := ?_) rfl rfl (by as_aux_lemma => kernel_rfl) (by as_aux_lemma => kernel_rfl) (by as_aux_lemma => kernel_rfl) (fun _ _ _ h => h) (Or.inl ⟨by kernel_rfl, ?_⟩) hS ?_
                  rotate_left
                  · intro w hSw; obtain ⟨c0, e0, e1, e2, e3⟩ := HC3.out _ hSw; obtain ⟨p0, p2⟩ := HJ.out _ hSw; go_simp
                    first | done | with_reducible rfl
                  refine wpAnyH_takeE (i := 5) (some 145) (v := ?_) rfl rfl (by as_aux_lemma => kernel_rfl) (by as_aux_lemma => kernel_rfl) (by as_aux_lemma => kernel_rfl) (fun _ _ _ h => h) (Or.inl ⟨by kernel_rfl, ?_⟩) hS ?_
                  rotate_left
                  · intro w hSw; obtain ⟨c0, e0, e1, e2, e3⟩ := HC3.out _ hSw; obtain ⟨p0, p2⟩ := HJ.out _ hSw; go_simp
                    first | done | with_reducible rfl
                  refine wpAnyH_takeE (i := 6) (some 146) (v := ?_) rfl rfl (by as_aux_lemma => kernel_rfl) (by as_aux_lemma => kernel_rfl) (by as_aux_lemma => kernel_rfl) (fun _ _ _ h => h) (Or.inl ⟨by kernel_rfl, ?_⟩) hS ?_
                  rotate_left
                  · intro w hSw; obtain ⟨c0, e0, e1, e2, e3⟩ := HC3.out _ hSw; obtain ⟨p0, p2⟩ := HJ.out _ hSw; go_simp
                    first | done | with_reducible rfl
                  refine wpAnyH_takeE (i := 7) (some 147) (v := ?_) rfl rfl (by as_aux_lemma => kernel_rfl) (by as_aux_lemma => kernel_rfl) (by as_aux_lemma => kernel_rfl) (fun _ _ _ h => h) (Or.inl ⟨by kernel_rfl, ?_⟩) hS ?_
                  rotate_left
                  · intro w hSw; obtain ⟨c0, e0, e1, e2, e3⟩ := HC3.out _ hSw; obtain ⟨p0, p2⟩ := HJ.out _ hSw; go_simp
                    first | done | with_reducible rfl
                  refine wpAnyH_takeE (i := 8) (some 148) (v := ?_) rfl rfl (by as_aux_lemma => kernel_rfl) (by as_aux_lemma => kernel_rfl) (by as_aux_lemma => kernel_rfl) (fun _ _ _ h => h) (Or.inl ⟨by kernel_rfl, ?_⟩) hS ?_
                  rotate_left
                  · intro w hSw; obtain ⟨c0, e0, e1, e2, e3⟩ := HC3.out _ hSw; obtain ⟨p0, p2⟩ := HJ.out _ hSw; go_simp
                    first | done | with_reducible rfl
                  refine wpAnyH_takeE (i := 9) (some 149) (v := ?_) rfl rfl (by as_aux_lemma => kernel_rfl) (by as_aux_lemma => kernel_rfl) (by as_aux_lemma => kernel_rfl) (fun _ _ _ h => h) (Or.inl ⟨by kernel_rfl, ?_⟩) hS ?_
                  rotate_left
                  · intro w hSw; obtain ⟨c0, e0, e1, e2, e3⟩ := HC3.out _ hSw; obtain ⟨p0, p2⟩ := HJ.out _ hSw; go_simp
                    first | done | with_reducible rfl
                  refine wpAnyH_takeE (i := 10) (some 150) (v := ?_) rfl rfl (by as_aux_lemma => kernel_rfl) (by as_aux_lemma => kernel_rfl) (by as_aux_lemma => kernel_rfl) (fun _ _ _ h => h) (Or.inl ⟨by kernel_rfl, ?_⟩) hS ?_
                  rotate_left
                  · intro w hSw; obtain ⟨c0, e0, e1, e2, e3⟩ := HC3.out _ hSw; obtain ⟨p0, p2⟩ := HJ.out _ hSw; go_simp
                    first | done | with_reducible rfl
                  refine wpAnyH_takeE (i := 11) (some 151) (v := ?_) rfl rfl (by as_aux_lemma => kernel_rfl) (by as_aux_lemma => kernel_rfl) (by as_aux_lemma => kernel_rfl) (fun _ _ _ h => h) (Or.inl ⟨by kernel_rfl, ?_⟩) hS ?_
                  rotate_left
                  · intro w hSw; obtain ⟨c0, e0, e1, e2, e3⟩ := HC3.out _ hSw; obtain ⟨p0, p2⟩ := HJ.out _ hSw; go_simp
                    first | done | with_reducible rfl
                  refine wpAnyH_takeE (i := 12) (some 152) (v := ?_) rfl rfl (by as_aux_lemma => kernel_rfl) (by as_aux_lemma => kernel_rfl) (by as_aux_lemma => kernel_rfl) (fun _ _ _ h => h) (Or.inl ⟨by kernel_rfl, ?_⟩) hS ?_
                  rotate_left
                  · intro w hSw; obtain ⟨c0, e0, e1, e2, e3⟩ := HC3.out _ hSw; obtain ⟨p0, p2⟩ := HJ.out _ hSw; go_simp
                    first | done | with_reducible rfl
                  refine wpAnyH_takeE (i := 13) (some 153) (v := ?_) rfl rfl (by as_aux_lemma => kernel_rfl) (by as_aux_lemma => kernel_rfl) (by as_aux_lemma => kernel_rfl) (fun _ _ _ h => h) (Or.inl ⟨by kernel_rfl, ?_⟩) hS ?_
                  rotate_left
                  · intro w hSw; obtain ⟨c0, e0, e1, e2, e3⟩ := HC3.out _ hSw; obtain ⟨p0, p2⟩ := HJ.out _ hSw; go_simp
                    first | done | with_reducible rfl
                  refine wpAnyH_takeE (i := 14) (some 154) (v := ?_) rfl rfl (by as_aux_lemma => kernel_rfl) (by as_aux_lemma => kernel_rfl) (by as_aux_lemma => kernel_rfl) (fun _ _ _ h => h) (Or.inl ⟨by kernel_rfl, ?_⟩) hS ?_
                  rotate_left
                  · intro w hSw; obtain ⟨c0, e0, e1, e2, e3⟩ := HC3.out _ hSw; obtain ⟨p0, p2⟩ := HJ.out _ hSw; go_simp
                    first | done | with_reducible rfl
                  refine wpAnyH_takeE (i := 15) (some 155) (v := ?_) rfl rfl (by as_aux_lemma => kernel_rfl) (by as_aux_lemma => kernel_rfl) (by as_aux_lemma => kernel_rfl) (fun _ _ _ h => h) (Or.inl ⟨by kernel_rfl, ?_⟩) hS ?_
                  rotate_left
                  · intro w hSw; obtain ⟨c0, e0, e1, e2, e3⟩ := HC3.out _ hSw; obtain ⟨p0, p2⟩ := HJ.out _ hSw; go_simp
                    first | done | with_reducible rfl
                  refine wpAnyH_takeE (i := 16) (some 156) (v := ?_) rfl rfl (by as_aux_lemma => kernel_rfl) (by as_aux_lemma => kernel_rfl) (by as_aux_lemma => kernel_rfl) (fun _ _ _ h => h) (Or.inl ⟨by kernel_rfl, ?_⟩) hS ?_
                  rotate_left
                  · intro w hSw; obtain ⟨c0, e0, e1, e2, e3⟩ := HC3.out _ hSw; obtain ⟨p0, p2⟩ := HJ.out _ hSw; go_simp
                    first | done | with_reducible rfl
                  refine wpAnyH_takeE (i := 17) (some 157) (v := ?_) rfl rfl (by as_aux_lemma => kernel_rfl) (by as_aux_lemma => kernel_rfl) (by as_aux_lemma => kernel_rfl) (fun _ _ _ h => h) (Or.inl ⟨by kernel_rfl, ?_⟩) hS ?_
                  rotate_left
                  · intro w hSw; obtain ⟨c0, e0, e1, e2, e3⟩ := HC3.out _ hSw; obtain ⟨p0, p2⟩ := HJ.out _ hSw; go_simp
                    first | done | with_reducible rfl
                  refine wpAnyH_takeE (i := 18) (some 158) (v := ?_) rfl rfl (by as_aux_lemma => kernel_rfl) (by as_aux_lemma => kernel_rfl) (by as_aux_lemma => kernel_rfl) (fun _ _ _ h => h) (Or.inl ⟨by kernel_rfl, ?_⟩) hS ?_
                  rotate_left
                  · intro w hSw; obtain ⟨c0, e0, e1, e2, e3⟩ := HC3.out _ hSw; obtain ⟨p0, p2⟩ := HJ.out _ hSw; go_simp
                    first | done | with_reducible rfl
                  refine wpAnyH_takeE (i := 19) (some 159) (v := ?_) rfl rfl (by as_aux_lemma => kernel_rfl) (by as_aux_lemma => kernel_rfl) (by as_aux_lemma => kernel_rfl) (fun _ _ _ h => h) (Or.inl ⟨by kernel_rfl, ?_⟩) hS ?_
                  rotate_left
                  · intro w hSw; obtain ⟨c0, e0, e1, e2, e3⟩ := HC3.out _ hSw; obtain ⟨p0, p2⟩ := HJ.out _ hSw; go_simp
                    first | done | with_reducible rfl
                  refine wpAnyH_takeE (i := 20) (some 160) (v := ?_) rfl rfl (by as_aux_lemma => kernel_rfl) (by as_aux_lemma => kernel_rfl) (by as_aux_lemma => kernel_rfl) (fun _ _ _ h => h) (Or.inl ⟨by kernel_rfl, ?_⟩) hS ?_
                  rotate_left
                  · intro w hSw; obtain ⟨c0, e0, e1, e2, e3⟩ := HC3.out _ hSw; obtain ⟨p0, p2⟩ := HJ.out _ hSw; go_simp
                    first | done | with_reducible rfl
                  refine wpAnyH_takeE (i := 21) (some 161) (v := ?_) rfl rfl (by as_aux_lemma => kernel_rfl) (by as_aux_lemma => kernel_rfl) (by as_aux_lemma => kernel_rfl) (fun _ _ _ h => h) (Or.inl ⟨by kernel_rfl, ?_⟩) hS ?_
                  rotate_left
                  · intro w hSw; obtain ⟨c0, e0, e1, e2, e3⟩ := HC3.out _ hSw; obtain ⟨p0, p2⟩ := HJ.out _ hSw; go_simp
                    first | done | with_reducible rfl
                  refine wpAnyH_takeE (i := 22) (some 162) (v := ?_) rfl rfl (by as_aux_lemma => kernel_rfl) (by as_aux_lemma => kernel_rfl) (by as_aux_lemma => kernel_rfl) (fun _ _ _ h => h) (Or.inl ⟨by kernel_rfl, ?_⟩) hS ?_
                  rotate_left
                  · intro w hSw; obtain ⟨c0, e0, e1, e2, e3⟩ := HC3.out _ hSw; obtain ⟨p0, p2⟩ := HJ.out _ hSw; go_simp
                    first | done | with_reducible rfl
                  refine wpAnyH_takeE (i := 23) (some 163) (v := ?_) rfl rfl (by as_aux_lemma => kernel_rfl) (by as_aux_lemma => kernel_rfl) (by as_aux_lemma => kernel_rfl) (fun _ _ _ h => h) (Or.inl ⟨by kernel_rfl, ?_⟩) hS ?_
                  rotate_left
                  · intro w hSw; obtain ⟨c0, e0, e1, e2, e3⟩ := HC3.out _ hSw; obtain ⟨p0, p2⟩ := HJ.out _ hSw; go_simp
                    first | done | with_reducible rfl
                  refine wpAnyH_takeE (i := 24) (some 164) (v := ?_) rfl rfl (by as_aux_lemma => kernel_rfl) (by as_aux_lemma => kernel_rfl) (by as_aux_lemma => kernel_rfl) (fun _ _ _ h => h) (Or.inl ⟨by kernel_rfl, ?_⟩) hS ?_
                  rotate_left
                  · intro w hSw; obtain ⟨c0, e0, e1, e2, e3⟩ := HC3.out _ hSw; obtain ⟨p0, p2⟩ := HJ.out _ hSw; go_simp
                    first | done | with_reducible rfl
                  refine wpAnyH_takeE (i := 25) (some 165) (v := ?_) rfl rfl (by as_aux_lemma => kernel_rfl) (by as_aux_lemma => kernel_rfl) (by as_aux_lemma => kernel_rfl) (fun _ _ _ h => h) (Or.inl ⟨by kernel_rfl, ?_⟩) hS ?_
                  rotate_left
                  · intro w hSw; obtain ⟨c0, e0, e1, e2, e3⟩ := HC3.out _ hSw; obtain ⟨p0, p2⟩ := HJ.out _ hSw; go_simp
                    first | done | with_reducible rfl
                  refine wpAnyH_takeE (i := 26) (some 166) (v := ?_) rfl rfl (by as_aux_lemma => kernel_rfl) (by as_aux_lemma => kernel_rfl) (by as_aux_lemma => kernel_rfl) (fun _ _ _ h => h) (Or.inl ⟨by kernel_rfl, ?_⟩) hS ?_
                  rotate_left
                  · intro w hSw; obtain ⟨c0, e0, e1, e2, e3⟩ := HC3.out _ hSw; obtain ⟨p0, p2⟩ := HJ.out _ hSw; go_simp
                    first | done | with_reducible rfl
                  refine wpAnyH_takeE (i := 27) (some 167) (v := ?_) rfl rfl (by as_aux_lemma => kernel_rfl) (by as_aux_lemma => kernel_rfl) (by as_aux_lemma => kernel_rfl) (fun _ _ _ h => h) (Or.inl ⟨by kernel_rfl, ?_⟩) hS ?_
                  rotate_left
                  · intro w hSw; obtain ⟨c0, e0, e1, e2, e3⟩ := HC3.out _ hSw; obtain ⟨p0, p2⟩ := HJ.out _ hSw; go_simp
                    first | done | with_reducible rfl
                  refine wpAnyH_takeE (i := 28) (some 168) (v := ?_) rfl rfl (by as_aux_lemma => kernel_rfl) (by as_aux_lemma => kernel_rfl) (by as_aux_lemma => kernel_rfl) (fun _ _ _ h => h) (Or.inl ⟨by kernel_rfl, ?_⟩) hS ?_
                  rotate_left
                  · intro w hSw; obtain ⟨c0, e0, e1, e2, e3⟩ := HC3.out _ hSw; obtain ⟨p0, p2⟩ := HJ.out _ hSw; go_simp
                    first | done | with_reducible rfl
                  refine wpAnyH_takeE (i := 29) (some 169) (v := ?_) rfl rfl (by as_aux_lemma => kernel_rfl) (by as_aux_lemma => kernel_rfl) (by as_aux_lemma => kernel_rfl) (fun _ _ _ h => h) (Or.inl ⟨by kernel_rfl, ?_⟩) hS ?_
                  rotate_left
                  · intro w hSw; obtain ⟨c0, e0, e1, e2, e3⟩ := HC3.out _ hSw; obtain ⟨p0, p2⟩ := HJ.out _ hSw; go_simp
                    first | done | with_reducible rfl
                  refine wpAnyH_takeE (i := 30) (some 170) (v := ?_) rfl rfl (by as_aux_lemma => kernel_rfl) (by as_aux_lemma => kernel_rfl) (by as_aux_lemma => kernel_rfl) (fun _ _ _ h => h) (Or.inl ⟨by kernel_rfl, ?_⟩) hS ?_
                  rotate_left
                  · intro w hSw; obtain ⟨c0, e0, e1, e2, e3⟩ := HC3.out _ hSw; obtain ⟨p0, p2⟩ := HJ.out _ hSw; go_simp
                    first | done | with_reducible rfl
                  refine wpAnyH_takeE (i := 31) (some 171) (v := ?_) rfl rfl (by as_aux_lemma => kernel_rfl) (by as_aux_lemma => kernel_rfl) (by as_aux_lemma => kernel_rfl) (fun _ _ _ h => h) (Or.inl ⟨by kernel_rfl, ?_⟩) hS ?_
                  rotate_left
                  · intro w hSw; obtain ⟨c0, e0, e1, e2, e3⟩ := HC3.out _ hSw; obtain ⟨p0, p2⟩ := HJ.out _ hSw; go_simp
                    first | done | with_reducible rfl
                  refine wpAnyH_takeE (i := 32) (some 172) (v := ?_) rfl rfl (by as_aux_lemma => kernel_rfl) (by as_aux_lemma => kernel_rfl) (by as_aux_lemma => kernel_rfl) (fun _ _ _ h => h) (Or.inl ⟨by kernel_rfl, ?_⟩) hS ?_
                  rotate_left
                  · intro w hSw; obtain ⟨c0, e0, e1, e2, e3⟩ := HC3.out _ hSw; obtain ⟨p0, p2⟩ := HJ.out _ hSw; go_simp
                    first | done | with_reducible rfl
                  refine wpAnyH_takeE (i := 33) (some 173) (v := ?_) rfl rfl (by as_aux_lemma => kernel_rfl) (by as_aux_lemma => kernel_rfl) (by as_aux_lemma => kernel_rfl) (fun _ _ _ h => h) (Or.inl ⟨by kernel_rfl, ?_⟩) hS ?_
                  rotate_left
                  · intro w hSw; obtain ⟨c0, e0, e1, e2, e3⟩ := HC3.out _ hSw; obtain ⟨p0, p2⟩ := HJ.out _ hSw; go_simp
                    first | done | with_reducible rfl
                  refine wpAnyH_takeE (i := 34) (some 174) (v := ?_) rfl rfl (by as_aux_lemma => kernel_rfl) (by as_aux_lemma => kernel_rfl) (by as_aux_lemma => kernel_rfl) (fun _ _ _ h => h) (Or.inl ⟨by kernel_rfl, ?_⟩) hS ?_
                  rotate_left
                  · intro w hSw; obtain ⟨c0, e0, e1, e2, e3⟩ := HC3.out _ hSw; obtain ⟨p0, p2⟩ := HJ.out _ hSw; go_simp
                    first | done | with_reducible rfl
                  refine wpAnyH_takeE (i := 35) (some 175) (v := ?_) rfl rfl (by as_aux_lemma => kernel_rfl) (by as_aux_lemma => kernel_rfl) (by as_aux_lemma => kernel_rfl) (fun _ _ _ h => h) (Or.inl ⟨by kernel_rfl, ?_⟩) hS ?_
                  rotate_left
                  · intro w hSw; obtain ⟨c0, e0, e1, e2, e3⟩ := HC3.out _ hSw; obtain ⟨p0, p2⟩ := HJ.out _ hSw; go_simp
                    first | done | with_reducible rfl
                  refine wpAnyH_takeE (i := 36) (some 176) (v := ?_) rfl rfl (by as_aux_lemma => kernel_rfl) (by as_aux_lemma => kernel_rfl) (by as_aux_lemma => kernel_rfl) (fun _ _ _ h => h) (Or.inl ⟨by kernel_rfl, ?_⟩) hS ?_
                  rotate_left
                  · intro w hSw; obtain ⟨c0, e0, e1, e2, e3⟩ := HC3.out _ hSw; obtain ⟨p0, p2⟩ := HJ.out _ hSw; go_simp
                    first | done | with_reducible rfl
                  refine wpAnyH_takeE (i := 37) (some 177) (v := ?_) rfl rfl (by as_aux_lemma => kernel_rfl) (by as_aux_lemma => kernel_rfl) (by as_aux_lemma => kernel_rfl) (fun _ _ _ h => h) (Or.inl ⟨by kernel_rfl, ?_⟩) hS ?_
                  rotate_left
                  · intro w hSw; obtain ⟨c0, e0, e1, e2, e3⟩ := HC3.out _ hSw; obtain ⟨p0, p2⟩ := HJ.out _ hSw; go_simp
                    first | done | with_reducible rfl
                  refine wpAnyH_takeE (i := 38) (some 178) (v := ?_) rfl rfl (by as_aux_lemma => kernel_rfl) (by as_aux_lemma => kernel_rfl) (by as_aux_lemma => kernel_rfl) (fun _ _ _ h => h) (Or.inl ⟨by kernel_rfl, ?_⟩) hS ?_
                  rotate_left
                  · intro w hSw; obtain ⟨c0, e0, e1, e2, e3⟩ := HC3.out _ hSw; obtain ⟨p0, p2⟩ := HJ.out _ hSw; go_simp
                    first | done | with_reducible rfl
                  refine wpAnyH_takeE (i := 39) (some 179) (v := ?_) rfl rfl (by as_aux_lemma => kernel_rfl) (by as_aux_lemma => kernel_rfl) (by as_aux_lemma => kernel_rfl) (fun _ _ _ h => h) (Or.inl ⟨by kernel_rfl, ?_⟩) hS ?_
                  rotate_left
                  · intro w hSw; obtain ⟨c0, e0, e1, e2, e3⟩ := HC3.out _ hSw; obtain ⟨p0, p2⟩ := HJ.out _ hSw; go_simp
                    first | done | with_reducible rfl
                  refine wpAnyH_takeE (i := 40) (some 180) (v := ?_) rfl rfl (by as_aux_lemma => kernel_rfl) (by as_aux_lemma => kernel_rfl) (by as_aux_lemma => kernel_rfl) (fun _ _ _ h => h) (Or.inl ⟨by kernel_rfl, ?_⟩) hS ?_
                  rotate_left
                  · intro w hSw; obtain ⟨c0, e0, e1, e2, e3⟩ := HC3.out _ hSw; obtain ⟨p0, p2⟩ := HJ.out _ hSw; go_simp
                    first | done | with_reducible rfl
                  refine wpAnyH_takeE (i := 41) (some 181) (v := ?_) rfl rfl (by as_aux_lemma => kernel_rfl) (by as_aux_lemma => kernel_rfl) (by as_aux_lemma => kernel_rfl) (fun _ _ _ h => h) (Or.inl ⟨by kernel_rfl, ?_⟩) hS ?_
                  rotate_left
                  · intro w hSw; obtain ⟨c0, e0, e1, e2, e3⟩ := HC3.out _ hSw; obtain ⟨p0, p2⟩ := HJ.out _ hSw; go_simp
                    first | done | with_reducible rfl
                  refine wpAnyH_takeE (i := 42) (some 182) (v := ?_) rfl rfl (by as_aux_lemma => kernel_rfl) (by as_aux_lemma => kernel_rfl) (by as_aux_lemma => kernel_rfl) (fun _ _ _ h => h) (Or.inl ⟨by kernel_rfl, ?_⟩) hS ?_
                  rotate_left
                  · intro w hSw; obtain ⟨c0, e0, e1, e2, e3⟩ := HC3.out _ hSw; obtain ⟨p0, p2⟩ := HJ.out _ hSw; go_simp
                    first | done | with_reducible rfl
                  refine wpAnyH_takeE (i := 43) (some 183) (v := ?_) rfl rfl (by as_aux_lemma => kernel_rfl) (by as_aux_lemma => kernel_rfl) (by as_aux_lemma => kernel_rfl) (fun _ _ _ h => h) (Or.inl ⟨by kernel_rfl, ?_⟩) hS ?_
                  rotate_left
                  · intro w hSw; obtain ⟨c0, e0, e1, e2, e3⟩ := HC3.out _ hSw; obtain ⟨p0, p2⟩ := HJ.out _ hSw; go_simp
                    first | done | with_reducible rfl
                  refine wpAnyH_done (by kernel_rfl) ?_ _
                  clear hb1 hb2 hq1 hi1 hi2 hi3 hij hjn hjw hjw2 hi0 HJ hsub hsub2
                  have HE : Hid (t1 + totG (G.take (i + 1)) = totG G ∧ WhSt w wr.drew a nR c l b mR cb pt rs aL L (some ⟨gb, 0, none⟩) G) := Lib.hid ⟨HTn.out, HSr.out.on hS⟩
                  clear hS HSr HC3 HB3
                  go_simp
                  go_wp2
                  go_roundw
                  case rel => exact ⟨i + 1, t1, by omega, by go_num, by first | rfl | go_num | (simp; omega), ht3, HE⟩
                  case measure => simp [intOf]; omega
                case neg =>
                  have hl1 : rj < rt := by rcases HOr.out with h | h <;> omega
                  have hq1 : ¬ (rt : Int) < (rj : Int) := by omega
                  have hq2 : ¬ rt < rj := by omega
                  have hq3 : decide (rt < rj) = false := decide_eq_false hq2
                  have hq4 : ((rt : Int) == (rj : Int)) = false := by simp; omega
                  have hq5 : ¬ (rt : Int) = (rj : Int) := by omega
                  have hq6 : ¬ rt = rj := by omega
                  have hq7 : (rt == rj) = false := by simpa using hq6
                  have hq8 : decide (rt = rj) = false := decide_eq_false hq6
                  have HJ := HJ0
                  clear HJ0 HBl HOr hord hrr
                  go_wp2_with fail
                  refine wp_region_any (by kernel_rfl) ?_
                  change wpAny _ _ _ _ _ _ _ (World.drew _)
                  have hS : (fun w' : World => Below wr.heap.size wr w') wr.drew := (Below.refl _ wr).drew
                  refine wpAny_of_held (S := fun w' => Below wr.heap.size wr w') _ _ _ _ ?_
                  refine wpAnyH_takeE (i := 0) (some 140) (v := ?_) rfl rfl (by as_aux_lemma => kernel_rfl) (by as_aux_lemma => kernel_rfl) (by as_aux_lemma => kernel_rfl) (fun _ _ _ h => h) (Or.inl ⟨by kernel_rfl, ?_⟩) hS ?_
                  rotate_left
                  · intro w hSw; obtain ⟨c0, e0, e1, e2, e3⟩ := HC3.out _ hSw; obtain ⟨p0, p2⟩ := HJ.out _ hSw; go_simp
                    first | done | with_reducible rfl
                  refine wpAnyH_takeE (i := 1) (some 141) (v := ?_) rfl rfl (by as_aux_lemma => kernel_rfl) (by as_aux_lemma => kernel_rfl) (by as_aux_lemma => kernel_rfl) (fun _ _ _ h => h) (Or.inl ⟨by kernel_rfl, ?_⟩) hS ?_
                  rotate_left
                  · intro w hSw; obtain ⟨c0, e0, e1, e2, e3⟩ := HC3.out _ hSw; obtain ⟨p0, p2⟩ := HJ.out _ hSw; go_simp
                    first | done | with_reducible rfl
                  refine wpAnyH_takeE (i := 2) (some 142) (v := ?_) rfl rfl (by as_aux_lemma => kernel_rfl) (by as_aux_lemma => kernel_rfl) (by as_aux_lemma => kernel_rfl) (fun _ _ _ h => h) (Or.inl ⟨by kernel_rfl, ?_⟩) hS ?_
                  rotate_left
                  · intro w hSw; obtain ⟨c0, e0, e1, e2, e3⟩ := HC3.out _ hSw; obtain ⟨p0, p2⟩ := HJ.out _ hSw; go_simp
                    first | done | with_reducible rfl
                  refine wpAnyH_takeE (i := 3) (some 143) (v := ?_) rfl rfl (by as_aux_lemma => kernel_rfl) (by as_aux_lemma => kernel_rfl) (by as_aux_lemma => kernel_rfl) (fun _ _ _ h => h) (Or.inl ⟨by kernel_rfl, ?_⟩) hS ?_
                  rotate_left
                  · intro w hSw; obtain ⟨c0, e0, e1, e2, e3⟩ := HC3.out _ hSw; obtain ⟨p0, p2⟩ := HJ.out _ hSw; go_simp
                    first | done | with_reducible rfl
                  refine wpAnyH_takeE (i := 4) (some 144) (v := ?_) rfl rfl (by as_aux_lemma => kernel_rfl) (by as_aux_lemma => kernel_rfl) (by as_aux_lemma => kernel_rfl) (fun _ _ _ h => h) (Or.inl ⟨by kernel_rfl, ?_⟩) hS ?_
                  rotate_left
                  · intro w hSw; obtain ⟨c0, e0, e1, e2, e3⟩ := HC3.out _ hSw; obtain ⟨p0, p2⟩ := HJ.out _ hSw; go_simp
                    first | done | with_reducible rfl
                  refine wpAnyH_takeE (i := 5) (some 145) (v := ?_) rfl rfl (by as_aux_lemma => kernel_rfl) (by as_aux_lemma => kernel_rfl) (by as_aux_lemma => kernel_rfl) (fun _ _ _ h => h) (Or.inl ⟨by kernel_rfl, ?_⟩) hS ?_
                  rotate_left
                  · intro w hSw; obtain ⟨c0, e0, e1, e2, e3⟩ := HC3.out _ hSw; obtain ⟨p0, p2⟩ := HJ.out _ hSw; go_simp
                    first | done | with_reducible rfl
                  refine wpAnyH_takeE (i := 6) (some 146) (v := ?_) rfl rfl (by as_aux_lemma => kernel_rfl) (by as_aux_lemma => kernel_rfl) (by as_aux_lemma => kernel_rfl) (fun _ _ _ h => h) (Or.inl ⟨by kernel_rfl, ?_⟩) hS ?_
                  rotate_left
                  · intro w hSw; obtain ⟨c0, e0, e1, e2, e3⟩ := HC3.out _ hSw; obtain ⟨p0, p2⟩ := HJ.out _ hSw; go_simp
                    first | done | with_reducible rfl
                  refine wpAnyH_takeE (i := 7) (some 147) (v := ?_) rfl rfl (by as_aux_lemma => kernel_rfl) (by as_aux_lemma => kernel_rfl) (by as_aux_lemma => kernel_rfl) (fun _ _ _ h => h) (Or.inl ⟨by kernel_rfl, ?_⟩) hS ?_
                  rotate_left
                  · intro w hSw; obtain ⟨c0, e0, e1, e2, e3⟩ := HC3.out _ hSw; obtain ⟨p0, p2⟩ := HJ.out _ hSw; go_simp
                    first | done | with_reducible rfl
                  refine wpAnyH_takeE (i := 8) (some 148) (v := ?_) rfl rfl (by as_aux_lemma => kernel_rfl) (by as_aux_lemma => kernel_rfl) (by as_aux_lemma => kernel_rfl) (fun _ _ _ h => h) (Or.inl ⟨by kernel_rfl, ?_⟩) hS ?_
                  rotate_left
                  · intro w hSw; obtain ⟨c0, e0, e1, e2, e3⟩ := HC3.out _ hSw; obtain ⟨p0, p2⟩ := HJ.out _ hSw; go_simp
                    first | done | with_reducible rfl
                  refine wpAnyH_takeE (i := 9) (some 149) (v := ?_) rfl rfl (by as_aux_lemma => kernel_rfl) (by as_aux_lemma => kernel_rfl) (by as_aux_lemma => kernel_rfl) (fun _ _ _ h => h) (Or.inl ⟨by kernel_rfl, ?_⟩) hS ?_
                  rotate_left
                  · intro w hSw; obtain ⟨c0, e0, e1, e2, e3⟩ := HC3.out _ hSw; obtain ⟨p0, p2⟩ := HJ.out _ hSw; go_simp
                    first | done | with_reducible rfl
                  refine wpAnyH_takeE (i := 10) (some 150) (v := ?_) rfl rfl (by as_aux_lemma => kernel_rfl) (by as_aux_lemma => kernel_rfl) (by as_aux_lemma => kernel_rfl) (fun _ _ _ h => h) (Or.inl ⟨by kernel_rfl, ?_⟩) hS ?_
                  rotate_left
                  · intro w hSw; obtain ⟨c0, e0, e1, e2, e3⟩ := HC3.out _ hSw; obtain ⟨p0, p2⟩ := HJ.out _ hSw; go_simp
                    first | done | with_reducible rfl
                  refine wpAnyH_takeE (i := 11) (some 151) (v := ?_) rfl rfl (by as_aux_lemma => kernel_rfl) (by as_aux_lemma => kernel_rfl) (by as_aux_lemma => kernel_rfl) (fun _ _ _ h => h) (Or.inl ⟨by kernel_rfl, ?_⟩) hS ?_
                  rotate_left
                  · intro w hSw; obtain ⟨c0, e0, e1, e2, e3⟩ := HC3.out _ hSw; obtain ⟨p0, p2⟩ := HJ.out _ hSw; go_simp
                    first | done | with_reducible rfl
                  refine wpAnyH_takeE (i := 12) (some 152) (v := ?_) rfl rfl (by as_aux_lemma => kernel_rfl) (by as_aux_lemma => kernel_rfl) (by as_aux_lemma => kernel_rfl) (fun _ _ _ h => h) (Or.inl ⟨by kernel_rfl, ?_⟩) hS ?_
                  rotate_left
                  · intro w hSw; obtain ⟨c0, e0, e1, e2, e3⟩ := HC3.out _ hSw; obtain ⟨p0, p2⟩ := HJ.out _ hSw; go_simp
                    first | done | with_reducible rfl
                  refine wpAnyH_takeE (i := 13) (some 153) (v := ?_) rfl rfl (by as_aux_lemma => kernel_rfl) (by as_aux_lemma => kernel_rfl) (by as_aux_lemma => kernel_rfl) (fun _ _ _ h => h) (Or.inl ⟨by kernel_rfl, ?_⟩) hS ?_
                  rotate_left
                  · intro w hSw; obtain ⟨c0, e0, e1, e2, e3⟩ := HC3.out _ hSw; obtain ⟨p0, p2⟩ := HJ.out _ hSw; go_simp
                    first | done | with_reducible rfl
                  refine wpAnyH_takeE (i := 14) (some 154) (v := ?_) rfl rfl (by as_aux_lemma => kernel_rfl) (by as_aux_lemma => kernel_rfl) (by as_aux_lemma => kernel_rfl) (fun _ _ _ h => h) (Or.inl ⟨by kernel_rfl, ?_⟩) hS ?_
                  rotate_left
                  · intro w hSw; obtain ⟨c0, e0, e1, e2, e3⟩ := HC3.out _ hSw; obtain ⟨p0, p2⟩ := HJ.out _ hSw; go_simp
                    first | done | with_reducible rfl
                  refine wpAnyH_takeE (i := 15) (some 155) (v := ?_) rfl rfl (by as_aux_lemma => kernel_rfl) (by as_aux_lemma => kernel_rfl) (by as_aux_lemma => kernel_rfl) (fun _ _ _ h => h) (Or.inl ⟨by kernel_rfl, ?_⟩) hS ?_
                  rotate_left
                  · intro w hSw; obtain ⟨c0, e0, e1, e2, e3⟩ := HC3.out _ hSw; obtain ⟨p0, p2⟩ := HJ.out _ hSw; go_simp
                    first | done | with_reducible rfl
                  refine wpAnyH_takeE (i := 16) (some 156) (v := ?_) rfl rfl (by as_aux_lemma => kernel_rfl) (by as_aux_lemma => kernel_rfl) (by as_aux_lemma => kernel_rfl) (fun _ _ _ h => h) (Or.inl ⟨by kernel_rfl, ?_⟩) hS ?_
                  rotate_left
                  · intro w hSw; obtain ⟨c0, e0, e1, e2, e3⟩ := HC3.out _ hSw; obtain ⟨p0, p2⟩ := HJ.out _ hSw; go_simp
                    first | done | with_reducible rfl
                  refine wpAnyH_takeE (i := 17) (some 157) (v := ?_) rfl rfl (by as_aux_lemma => kernel_rfl) (by as_aux_lemma => kernel_rfl) (by as_aux_lemma => kernel_rfl) (fun _ _ _ h => h) (Or.inl ⟨by kernel_rfl, ?_⟩) hS ?_
                  rotate_left
                  · intro w hSw; obtain ⟨c0, e0, e1, e2, e3⟩ := HC3.out _ hSw; obtain ⟨p0, p2⟩ := HJ.out _ hSw; go_simp
                    first | done | with_reducible rfl
                  refine wpAnyH_takeE (i := 18) (some 158) (v := ?_) rfl rfl (by as_aux_lemma => kernel_rfl) (by as_aux_lemma => kernel_rfl) (by as_aux_lemma => kernel_rfl) (fun _ _ _ h => h) (Or.inl ⟨by kernel_rfl, ?_⟩) hS ?_
                  rotate_left
                  · intro w hSw; obtain ⟨c0, e0, e1, e2, e3⟩ := HC3.out _ hSw; obtain ⟨p0, p2⟩ := HJ.out _ hSw; go_simp
                    first | done | with_reducible rfl
                  refine wpAnyH_takeE (i := 19) (some 159) (v := ?_) rfl rfl (by as_aux_lemma => kernel_rfl) (by as_aux_lemma => kernel_rfl) (by as_aux_lemma => kernel_rfl) (fun _ _ _ h => h) (Or.inl ⟨by kernel_rfl, ?_⟩) hS ?_
                  rotate_left
                  · intro w hSw; obtain ⟨c0, e0, e1, e2, e3⟩ := HC3.out _ hSw; obtain ⟨p0, p2⟩ := HJ.out _ hSw; go_simp
                    first | done | with_reducible rfl
                  refine wpAnyH_takeE (i := 20) (some 160) (v := ?_) rfl rfl (by as_aux_lemma => kernel_rfl) (by as_aux_lemma => kernel_rfl) (by as_aux_lemma => kernel_rfl) (fun _ _ _ h => h) (Or.inl ⟨by kernel_rfl, ?_⟩) hS ?_
                  rotate_left
                  · intro w hSw; obtain ⟨c0, e0, e1, e2, e3⟩ := HC3.out _ hSw; obtain ⟨p0, p2⟩ := HJ.out _ hSw; go_simp
                    first | done | with_reducible rfl
                  refine wpAnyH_takeE (i := 21) (some 161) (v := ?_) rfl rfl (by as_aux_lemma => kernel_rfl) (by as_aux_lemma => kernel_rfl) (by as_aux_lemma => kernel_rfl) (fun _ _ _ h => h) (Or.inl ⟨by kernel_rfl, ?_⟩) hS ?_
                  rotate_left
                  · intro w hSw; obtain ⟨c0, e0, e1, e2, e3⟩ := HC3.out _ hSw; obtain ⟨p0, p2⟩ := HJ.out _ hSw; go_simp
                    first | done | with_reducible rfl
                  refine wpAnyH_takeE (i := 22) (some 162) (v := ?_) rfl rfl (by as_aux_lemma => kernel_rfl) (by as_aux_lemma => kernel_rfl) (by as_aux_lemma => kernel_rfl) (fun _ _ _ h => h) (Or.inl ⟨by kernel_rfl, ?_⟩) hS ?_
                  rotate_left
                  · intro w hSw; obtain ⟨c0, e0, e1, e2, e3⟩ := HC3.out _ hSw; obtain ⟨p0, p2⟩ := HJ.out _ hSw; go_simp
                    first | done | with_reducible rfl
                  refine wpAnyH_takeE (i := 23) (some 163) (v := ?_) rfl rfl (by as_aux_lemma => kernel_rfl) (by as_aux_lemma => kernel_rfl) (by as_aux_lemma => kernel_rfl) (fun _ _ _ h => h) (Or.inl ⟨by kernel_rfl, ?_⟩) hS ?_
                  rotate_left
                  · intro w hSw; obtain ⟨c0, e0, e1, e2, e3⟩ := HC3.out _ hSw; obtain ⟨p0, p2⟩ := HJ.out _ hSw; go_simp
                    first | done | with_reducible rfl
                  refine wpAnyH_takeE (i := 24) (some 164) (v := ?_) rfl rfl (by as_aux_lemma => kernel_rfl) (by as_aux_lemma => kernel_rfl) (by as_aux_lemma => kernel_rfl) (fun _ _ _ h => h) (Or.inl ⟨by kernel_rfl, ?_⟩) hS ?_
                  rotate_left
                  · intro w hSw; obtain ⟨c0, e0, e1, e2, e3⟩ := HC3.out _ hSw; obtain ⟨p0, p2⟩ := HJ.out _ hSw; go_simp
                    first | done | with_reducible rfl
                  refine wpAnyH_takeE (i := 25) (some 165) (v := ?_) rfl rfl (by as_aux_lemma => kernel_rfl) (by as_aux_lemma => kernel_rfl) (by as_aux_lemma => kernel_rfl) (fun _ _ _ h => h) (Or.inl ⟨by kernel_rfl, ?_⟩) hS ?_
                  rotate_left
                  · intro w hSw; obtain ⟨c0, e0, e1, e2, e3⟩ := HC3.out _ hSw; obtain ⟨p0, p2⟩ := HJ.out _ hSw; go_simp
                    first | done | with_reducible rfl
                  refine wpAnyH_takeE (i := 26) (some 166) (v := ?_) rfl rfl (by as_aux_lemma => kernel_rfl) (by as_aux_lemma => kernel_rfl) (by as_aux_lemma => kernel_rfl) (fun _ _ _ h => h) (Or.inl ⟨by kernel_rfl, ?_⟩) hS ?_
                  rotate_left
                  · intro w hSw; obtain ⟨c0, e0, e1, e2, e3⟩ := HC3.out _ hSw; obtain ⟨p0, p2⟩ := HJ.out _ hSw; go_simp
                    first | done | with_reducible rfl
                  refine wpAnyH_takeE (i := 27) (some 167) (v := ?_) rfl rfl (by as_aux_lemma => kernel_rfl) (by as_aux_lemma => kernel_rfl) (by as_aux_lemma => kernel_rfl) (fun _ _ _ h => h) (Or.inl ⟨by kernel_rfl, ?_⟩) hS ?_
                  rotate_left
                  · intro w hSw; obtain ⟨c0, e0, e1, e2, e3⟩ := HC3.out _ hSw; obtain ⟨p0, p2⟩ := HJ.out _ hSw; go_simp
                    first | done | with_reducible rfl
                  refine wpAnyH_takeE (i := 28) (some 168) (v := ?_) rfl rfl (by as_aux_lemma => kernel_rfl) (by as_aux_lemma => kernel_rfl) (by as_aux_lemma => kernel_rfl) (fun _ _ _ h => h) (Or.inl ⟨by kernel_rfl, ?_⟩) hS ?_
                  rotate_left
                  · intro w hSw; obtain ⟨c0, e0, e1, e2, e3⟩ := HC3.out _ hSw; obtain ⟨p0, p2⟩ := HJ.out _ hSw; go_simp
                    first | done | with_reducible rfl
                  refine wpAnyH_takeE (i := 29) (some 169) (v := undef) rfl rfl (by as_aux_lemma => kernel_rfl) (by as_aux_lemma => kernel_rfl) (by as_aux_lemma => kernel_rfl) (fun _ _ _ h => h) (Or.inr ⟨by kernel_rfl, rfl⟩) hS ?_
                  refine wpAnyH_takeE (i := 30) (some 170) (v := undef) rfl rfl (by as_aux_lemma => kernel_rfl) (by as_aux_lemma => kernel_rfl) (by as_aux_lemma => kernel_rfl) (fun _ _ _ h => h) (Or.inr ⟨by kernel_rfl, rfl⟩) hS ?_
                  refine wpAnyH_takeE (i := 31) (some 171) (v := undef) rfl rfl (by as_aux_lemma => kernel_rfl) (by as_aux_lemma => kernel_rfl) (by as_aux_lemma => kernel_rfl) (fun _ _ _ h => h) (Or.inr ⟨by kernel_rfl, rfl⟩) hS ?_
                  refine wpAnyH_takeE (i := 32) (some 172) (v := undef) rfl rfl (by as_aux_lemma => kernel_rfl) (by as_aux_lemma => kernel_rfl) (by as_aux_lemma => kernel_rfl) (fun _ _ _ h => h) (Or.inr ⟨by kernel_rfl, rfl⟩) hS ?_
                  refine wpAnyH_takeE (i := 33) (some 173) (v := undef) rfl rfl (by as_aux_lemma => kernel_rfl) (by as_aux_lemma => kernel_rfl) (by as_aux_lemma => kernel_rfl) (fun _ _ _ h => h) (Or.inr ⟨by kernel_rfl, rfl⟩) hS ?_
                  refine wpAnyH_takeE (i := 34) (some 174) (v := undef) rfl rfl (by as_aux_lemma => kernel_rfl) (by as_aux_lemma => kernel_rfl) (by as_aux_lemma => kernel_rfl) (fun _ _ _ h => h) (Or.inr ⟨by kernel_rfl, rfl⟩) hS ?_
                  refine wpAnyH_takeE (i := 35) (some 175) (v := undef) rfl rfl (by as_aux_lemma => kernel_rfl) (by as_aux_lemma => kernel_rfl) (by as_aux_lemma => kernel_rfl) (fun _ _ _ h => h) (Or.inr ⟨by kernel_rfl, rfl⟩) hS ?_
                  refine wpAnyH_takeE (i := 36) (some 176) (v := undef) rfl rfl (by as_aux_lemma => kernel_rfl) (by as_aux_lemma => kernel_rfl) (by as_aux_lemma => kernel_rfl) (fun _ _ _ h => h) (Or.inr ⟨by kernel_rfl, rfl⟩) hS ?_
                  refine wpAnyH_takeE (i := 37) (some 177) (v := undef) rfl rfl (by as_aux_lemma => kernel_rfl) (by as_aux_lemma => kernel_rfl) (by as_aux_lemma => kernel_rfl) (fun _ _ _ h => h) (Or.inr ⟨by kernel_rfl, rfl⟩) hS ?_
                  refine wpAnyH_takeE (i := 38) (some 178) (v := undef) rfl rfl (by as_aux_lemma => kernel_rfl) (by as_aux_lemma => kernel_rfl) (by as_aux_lemma => kernel_rfl) (fun _ _ _ h => h) (Or.inr ⟨by kernel_rfl, rfl⟩) hS ?_
                  refine wpAnyH_takeE (i := 39) (some 179) (v := undef) rfl rfl (by as_aux_lemma => kernel_rfl) (by as_aux_lemma => kernel_rfl) (by as_aux_lemma => kernel_rfl) (fun _ _ _ h => h) (Or.inr ⟨by kernel_rfl, rfl⟩) hS ?_
                  refine wpAnyH_takeE (i := 40) (some 180) (v := undef) rfl rfl (by as_aux_lemma => kernel_rfl) (by as_aux_lemma => kernel_rfl) (by as_aux_lemma => kernel_rfl) (fun _ _ _ h => h) (Or.inr ⟨by kernel_rfl, rfl⟩) hS ?_
                  refine wpAnyH_takeE (i := 41) (some 181) (v := ?_) rfl rfl (by as_aux_lemma => kernel_rfl) (by as_aux_lemma => kernel_rfl) (by as_aux_lemma => kernel_rfl) (fun _ _ _ h => h) (Or.inl ⟨by kernel_rfl, ?_⟩) hS ?_
                  rotate_left
                  · intro w hSw; obtain ⟨c0, e0, e1, e2, e3⟩ := HC3.out _ hSw; obtain ⟨p0, p2⟩ := HJ.out _ hSw; go_simp
                    first | done | with_reducible rfl
                  refine wpAnyH_takeE (i := 42) (some 182) (v := ?_) rfl rfl (by as_aux_lemma => kernel_rfl) (by as_aux_lemma => kernel_rfl) (by as_aux_lemma => kernel_rfl) (fun _ _ _ h => h) (Or.inl ⟨by kernel_rfl, ?_⟩) hS ?_
                  rotate_left
                  · intro w hSw; obtain ⟨c0, e0, e1, e2, e3⟩ := HC3.out _ hSw; obtain ⟨p0, p2⟩ := HJ.out _ hSw; go_simp
                    first | done | with_reducible rfl
                  refine wpAnyH_takeE (i := 43) (some 183) (v := ?_) rfl rfl (by as_aux_lemma => kernel_rfl) (by as_aux_lemma => kernel_rfl) (by as_aux_lemma => kernel_rfl) (fun _ _ _ h => h) (Or.inl ⟨by kernel_rfl, ?_⟩) hS ?_
                  rotate_left
                  · intro w hSw; obtain ⟨c0, e0, e1, e2, e3⟩ := HC3.out _ hSw; obtain ⟨p0, p2⟩ := HJ.out _ hSw; go_simp
                    first | done | with_reducible rfl
                  refine wpAnyH_done (by kernel_rfl) ?_ _
                  clear hl1 hq1 hq2 hq3 hq4 hq5 hq6 hq7 hq8 hi1 hi2 hi3 hij hjn hjw hjw2 hi0 HJ hsub hsub2
                  have HE : Hid (t1 + totG (G.take (i + 1)) = totG G ∧ WhSt w wr.drew a nR c l b mR cb pt rs aL L (some ⟨gb, 0, none⟩) G) := Lib.hid ⟨HTn.out, HSr.out.on hS⟩
                  clear hS HSr HC3 HB3
                  go_simp
                  go_wp2
                  go_roundw
                  case rel => exact ⟨i + 1, t1, by omega, by go_num, by first | rfl | go_num | (simp; omega), ht3, HE⟩
                  case measure => simp [intOf]; omega

end Go.Proofs.YtmanjegdgjeeiaaGreatDoor
