/-
  What is Served, of the specification.
-/
import Derived.Test.YteclbfgkeoiclaaSerM
import Derived.Deep.RegionHeld3
namespace Go.Proofs.Yteclbfgkeoiclaa.Ro
open Go.ChangeShapes Go.WideShapes Go.ChangeAt Go.RowKit
open Cv Cu
open Go.Proofs.Yteclbfgkeoiclaa.Pt (Ln lat)
set_option linter.unusedVariables false
/-- An append onto a row of one's own, as one step of a region that draws its order. -/
theorem step_append_own {P : Program} {ops : Array Oper} {o : Oper} {a : Act} {w : World} {K : Act → World → Prop} {Q : Exit → Act → World → Prop} {E : Prop}
    (hg : o.guard = none) (s x : Operand) (t : TypeId) (hop : o.op = Op.call { callee := Callee.builtin Builtin.append, args := #[s, x], argTypes := #[t, t] })
    (base : Nat) (e : TypeId) (i : TypeInfo) (z : Value) (size bytes : Nat) (h1 : P.underlying t = some (.slice e)) (h2 : P.info? e = some i) (h3 : i.zero = some z) (h4 : i.size = size) (h5 : i.bytes = bytes) (h6 : z.cells.size = size) (h7 : 0 < size)
    (v : Value) (n : Nat) (xs : List Value) (hs : a.eval s = v) (hown : w.ownsRow base e size v n xs)
    (ad : Addr) (m c : Nat) (news : List Value) (hx : a.eval x = .slice (some ad) m c) (hn : news.length = m * size) (hc : ∀ j u, news[j]? = some u → w.cell? (ad.add j) = some u) (h1c : ∀ u ∈ news, u.oneCell' = true)
    (b1 : n + m ≤ maxLen) (b2 : (n + m) * bytes ≤ 140737488355328) (hb : base ≤ w.heap.size)
    (hK : ∀ v' w', w'.ownsRow base e size v' (n + m) (xs ++ news) → w.grownBy w' v.ownBlock → K (a.put o.dst v') w') :
    if Region.wanted o (yielded ops a.tmps) = true then Oper.wp P o a w K Q else E := by
  have hw : Region.wanted o (yielded ops a.tmps) = true := by simp [Region.wanted, hg]
  rw [if_pos hw]
  obtain ⟨v', w', hrun, r1, r2, _⟩ := run_append_own (P := P) w base t o.type e i z size bytes h1 h2 h3 h4 h5 h6 h7 v n xs hown ad m c news hn hc h1c b1 b2 hb
  unfold Oper.wp
  simp [execOp, hop, resolve, invoke, builtin, hs, hx, hrun, Result.andThen]
  exact hK v' w' r1 r2
theorem own_two (w : World) (x y p q : Int) : Pt.Own (w.alloc (.cells #[.int .i64 x, .int .i64 y, .int .i64 p, .int .i64 q] 40)) w.heap.size (.slice (some ⟨w.heap.size, 0, none⟩) 2 2) [(x, y), (p, q)] :=
  ⟨by simp [Pt.lcells], .inr ⟨w.heap.size, 2, _, rfl, Nat.le_refl _, heap_alloc_new w _, Nat.le_refl _, by decide, rfl, rfl⟩⟩
theorem box_beside {w w' : World} {b c : Nat} {cs : Array Value} (h : Bo.Box w b cs) (k : Only c w w') (hne : ¬ b = c) : Bo.Box w' b cs :=
  ⟨Nat.lt_of_lt_of_le h.lt k.size, fun i => by rw [k.cell (p := ⟨b, i, none⟩) h.lt hne]; exact h.at' i, fun i => by rw [k.frozen (p := ⟨b, i, none⟩) h.lt hne]; exact h.fr i⟩
theorem only_of_grown {w w' : World} {c : Nat} (g : w.grownBy w' (some c)) : Only c w w' := ⟨g.os, g.tape, g.output, g.size, fun k hk hne => g.block k hk (fun e => hne (Option.some.inj e))⟩
set_option maxRecDepth 100000 in
set_option maxHeartbeats 8000000 in
theorem spec_l10Served (p m o n a : Int) (w : World) (hr : rollOk p m o n a = true) : Calls Try.prog 36 #[rv p m o n a] w fun e w' => ∃ v, e = .returned v ∧ Pt.Own w' w.heap.size v (serR p m o n a) ∧ Below w.heap.size w w' := by
  obtain ⟨i0, hi0, hz0, hz1, hz2⟩ := info_parts infoPt
  obtain ⟨hm, ho, hn1, hn2⟩ := roll_secs hr
  have e1 : p = 1 → serR p m o n a = [keyI m, keyI o] := fun h => by rw [serR, secR, if_neg (by simp [hr]), if_pos h]; rfl
  have e2 : p ≠ 1 → serR p m o n a = [keyI m, keyI o] ++ [keyI n] := fun h => by rw [serR, secR, if_neg (by simp [hr]), if_neg h]; rfl
  have CM := hidIt (fun W => spec_times m hm W)
  have CO := hidIt (fun W => spec_times o ho W)
  have CN := hidIt (fun (h : p ≠ 1) W => spec_times n (hn2 h) W)
  have hpos : p ≠ 1 → 0 < n := fun h => by have := hn2 h; simp [secB, inB] at this; omega
  generalize serR p m o n a = R at e1 e2 ⊢
  generalize keyI m = km at CM e1 e2
  generalize keyI o = ko at CO e1 e2
  generalize keyI n = kn at CN e2
  obtain ⟨mx, my⟩ := km
  obtain ⟨ox, oy⟩ := ko
  obtain ⟨nx, ny⟩ := kn
  have CB := hidIt (fun W => spec_Base W)
  have BX := hidIt (Bo.Box.new w #[.int .i64 p, .int .i64 m, .int .i64 o, .int .i64 n, .int .i64 a] 25)
  have HB := hidIt ((Below.refl w.heap.size w).alloc (Nat.le_refl _) (rbox p m o n a 25))
  have E1 := hidIt e1
  have E2 := hidIt e2
  have HP := hidIt hpos
  have HN1 := hidIt hn1
  clear e1 e2 hpos hn1 hn2 hm ho hr
  go_enter Try.func36, Try.ntmps36
  go_wp2_with (fail)
  generalize w.alloc (.cells #[.int .i64 p, .int .i64 m, .int .i64 o, .int .i64 n, .int .i64 a] 25) = wz at BX HB ⊢
  have hgB : w.heap.size ≤ w.heap.size := Nat.le_refl _
  generalize hgg : w.heap.size = g at BX ⊢
  have HG := hidIt hgg
  clear hgg
  have SZ : wz.drew.cell? ⟨g, 1, none⟩ = some (.int .i64 m) ∧ wz.drew.cell? ⟨g, 2, none⟩ = some (.int .i64 o) := ⟨BX.out.drew.c 1 rfl, BX.out.drew.c 2 rfl⟩
  go_region_held3 (fun w' => w'.cell? ⟨g, 1, none⟩ = some (.int .i64 m) ∧ w'.cell? ⟨g, 2, none⟩ = some (.int .i64 o))
    (first | (with_reducible assumption) | fail)
    (first
    | (have h0 := BXB.out; clear h0; go_at_call 44; refine (CB.out _).mono ?_; rintro e wC ⟨rfl, kC⟩; have BXC := hidIt (BXB.out.kept kC); have HBC := hidIt (HBB.out.trans (kC.mono HBB.out.size)); clear kC; have SC : wC.cell? ⟨g, 1, none⟩ = some (.int .i64 m) ∧ wC.cell? ⟨g, 2, none⟩ = some (.int .i64 o) := ⟨BXC.out.c 1 rfl, BXC.out.c 2 rfl⟩)
    | (go_at_call 44; refine (CB.out _).mono ?_; rintro e wA ⟨rfl, kA⟩; have BXA := hidIt (BX.out.drew.kept kA); have HBA := hidIt (HB.out.drew.trans (kA.mono HB.out.size)); clear kA; have SA : wA.cell? ⟨g, 1, none⟩ = some (.int .i64 m) ∧ wA.cell? ⟨g, 2, none⟩ = some (.int .i64 o) := ⟨BXA.out.c 1 rfl, BXA.out.c 2 rfl⟩)
    | (have h0 := BXC.out; clear h0; go_at_call 43; refine (CO.out _).mono ?_; rintro e wD ⟨rfl, kD⟩; have BXD := hidIt (BXC.out.kept kD); have HBD := hidIt (HBC.out.trans (kD.mono HBC.out.size)); clear kD; have SD : wD.cell? ⟨g, 1, none⟩ = some (.int .i64 m) ∧ wD.cell? ⟨g, 2, none⟩ = some (.int .i64 o) := ⟨BXD.out.c 1 rfl, BXD.out.c 2 rfl⟩; have SE : (wD.alloc (.cells #[.int .i64 mx, .int .i64 my, .int .i64 ox, .int .i64 oy] 40)).cell? ⟨g, 1, none⟩ = some (.int .i64 m) ∧ (wD.alloc (.cells #[.int .i64 mx, .int .i64 my, .int .i64 ox, .int .i64 oy] 40)).cell? ⟨g, 2, none⟩ = some (.int .i64 o) := ⟨(BXD.out.alloc _).c 1 rfl, (BXD.out.alloc _).c 2 rfl⟩)
    | (go_at_call 43; refine (CM.out _).mono ?_; rintro e wB ⟨rfl, kB⟩; have BXB := hidIt (BXA.out.kept kB); have HBB := hidIt (HBA.out.trans (kB.mono HBA.out.size)); clear kB; have SB : wB.cell? ⟨g, 1, none⟩ = some (.int .i64 m) ∧ wB.cell? ⟨g, 2, none⟩ = some (.int .i64 o) := ⟨BXB.out.c 1 rfl, BXB.out.c 2 rfl⟩))
  have HO := hidIt ((own_two wD mx my ox oy).mono (b' := w.heap.size) HBD.out.size)
  have HBE := hidIt (HBD.out.alloc HBD.out.size (.cells #[.int .i64 mx, .int .i64 my, .int .i64 ox, .int .i64 oy] 40))
  have BXE := hidIt (BXD.out.alloc (.cells #[.int .i64 mx, .int .i64 my, .int .i64 ox, .int .i64 oy] 40))
  have hsz : w.heap.size ≤ wD.heap.size := HBD.out.size
  have hgd : ¬ g = wD.heap.size := by have := BXD.out.lt; omega
  clear SZ SA SB SC SD SE BXA BXB BXC BXD HBA HBB HBC HBD BX HB
  have hslt : wD.heap.size < wD.heap.size + 1 := by omega
  generalize wD.alloc (.cells #[.int .i64 mx, .int .i64 my, .int .i64 ox, .int .i64 oy] 40) = wy at HO HBE BXE ⊢
  generalize wD.heap.size = gd at *
  have d3 := BXE.out.c 3 (v := .int .i64 n) rfl
  by_cases h1 : p = 1
  · have hn0 := HN1.out h1
    have hn' : ¬ (0 : Int) < n := by omega
    have er := hidIt (E1.out h1)
    clear h1 hn0
    go_wp2_with (fail)
    go_ret
    exact ⟨_, rfl, by rw [er.out]; exact HO.out, HBE.out⟩
  · have hn' := HP.out h1
    have er := hidIt (E2.out h1)
    have CN1 := hidIt (CN.out h1)
    clear h1
    go_wp2_with (fail)
    have SZ : wy.drew.cell? ⟨g, 3, none⟩ = some (.int .i64 n) := BXE.out.drew.c 3 rfl
    clear d3
    go_region_held3 (fun w' => w'.cell? ⟨g, 3, none⟩ = some (.int .i64 n))
      (first | (with_reducible assumption) | fail)
      (first
      | (go_at_call 44; refine (CB.out _).mono ?_; rintro e wA ⟨rfl, kA⟩; have BXA := hidIt (BXE.out.drew.kept kA); have HBA := hidIt (HBE.out.drew.trans (kA.mono HBE.out.size)); have HOA := hidIt (Pt.Own.kept (w := wy.drew) HO.out kA); clear kA; have SA : wA.cell? ⟨g, 3, none⟩ = some (.int .i64 n) := BXA.out.c 3 rfl)
      | (go_at_call 43; refine (CN1.out _).mono ?_; rintro e wB ⟨rfl, kB⟩; have BXB := hidIt (BXA.out.kept kB); have HBB := hidIt (HBA.out.trans (kB.mono HBA.out.size)); have HOB := hidIt ((HOA.out.kept kB).alloc (.cells #[.int .i64 nx, .int .i64 ny] 40)); have hsB := hidIt HBB.out.size; clear kB; have SB : wB.cell? ⟨g, 3, none⟩ = some (.int .i64 n) := BXB.out.c 3 rfl; have SC : (wB.alloc (.cells #[.int .i64 nx, .int .i64 ny] 40)).cell? ⟨g, 3, none⟩ = some (.int .i64 n) := (BXB.out.alloc _).c 3 rfl)
      | (refine step_append_own (by rfl) (.tmp 16) (.tmp 21) 36 (by rfl) w.heap.size 40 i0 (.agg #[.int .i64 0, .int .i64 0]) 2 16 Try.underlying36 hi0 hz0 hz1 hz2 rfl (by decide) (.slice (some ⟨gd, 0, none⟩) 2 2) 2 (Pt.lcells [(mx, my), (ox, oy)]) (by simp [Act.eval]) HOB.out ⟨wB.heap.size, 0, none⟩ 1 1 [.int .i64 nx, .int .i64 ny] (by simp [Act.eval]) rfl (fresh_cells wB nx ny 40) (Pt.lcells_one [(nx, ny)]) (by decide) (by decide) (by have := hsB.out; simp; omega) ?_; intro v5 w5 ho5 hg5; have BX5 := hidIt (box_beside (BXB.out.alloc (.cells #[.int .i64 nx, .int .i64 ny] 40)) (only_of_grown hg5) hgd); have S5 : w5.cell? ⟨g, 3, none⟩ = some (.int .i64 n) := BX5.out.c 3 rfl))
    have HO5 := hidIt (Pt.Own.more (L := [(mx, my), (ox, oy)]) (x := (nx, ny)) ho5)
    have kk := Pt.grown_below HOB.out hg5 (B := w.heap.size) (Nat.le_refl _) (by have := hsB.out; simp; omega)
    have HB5 := hidIt ((HBB.out.alloc hsB.out (.cells #[.int .i64 nx, .int .i64 ny] 40)).trans kk)
    clear ho5 hg5 kk S5 SA SB SC SZ HOA HOB BXA BXB HBA HBB
    go_wp2_with (fail)
    go_ret
    exact ⟨_, rfl, by rw [er.out]; exact HO5.out, HB5.out⟩
set_option maxRecDepth 100000 in
set_option maxHeartbeats 4000000 in
theorem spec_Served (p m o n a : Int) (w : World) : Calls Try.prog 15 #[rv p m o n a] w fun e w' => ∃ v, e = .returned v ∧ Pt.Own w' w.heap.size v (serR p m o n a) ∧ Below w.heap.size w w' := by
  have C := hidIt (fun W => spec_RollOk p m o n a W)
  cases hr : rollOk p m o n a with
  | false =>
    rw [hr] at C
    have e : serR p m o n a = [] := by simp [serR, secR, hr]
    rw [e]
    clear e hr
    go_enter Try.func15, Try.ntmps15
    go_wp2_with (fail)
    refine (C.out _).mono ?_
    rintro e w1 ⟨rfl, rfl⟩
    go_wp2_with (fail)
    go_ret
    refine ⟨_, rfl, ?_, by go_grown⟩
    have h := (Pt.Own.new ((w.alloc (rbox p m o n a 25)).alloc (rbox p m o n a 25))).mono (b' := w.heap.size) (by simp; omega)
    simpa using h
  | true =>
    rw [hr] at C
    have D := hidIt (fun W => spec_l10Served p m o n a W hr)
    generalize serR p m o n a = R at D ⊢
    clear hr
    have HB := hidIt (show Below w.heap.size w ((w.alloc (rbox p m o n a 25)).alloc (rbox p m o n a 25)) by go_grown)
    go_enter Try.func15, Try.ntmps15
    go_wp2_with (fail)
    refine (C.out _).mono ?_
    rintro e w1 ⟨rfl, rfl⟩
    go_wp2_with (fail)
    refine (D.out _).mono ?_
    rintro e w2 ⟨v, rfl, hO, k2⟩
    have HO := hidIt (hO.mono HB.out.size)
    replace HB := hidIt (HB.out.trans (k2.mono HB.out.size))
    clear hO k2
    obtain ⟨b, cap, rfl, _⟩ := HO.out.form
    go_wp2_with (fail)
    go_ret
    exact ⟨_, rfl, HO.out, HB.out⟩
end Go.Proofs.Yteclbfgkeoiclaa.Ro
