/-
  Errors in memory: a package-level variable that holds an error of errors.New's make; an error of the program's own that wraps one, or none.
  sealFault and Holds of the program.
  KeysText of the program (a strings.Builder; a fault where something is not as told).
  What FnSealed asks of a Seal, in letters.
  What a law's list says of the program's errors of errors.New's make (and, where the law meets errors.As, of the library's handle of the type error), and that they stay.
-/
import Derived.Test.YtciikondckoboaaDoorBoxM
import Derived.Test.YtciikondckoboaaDoorBun4
import Derived.Test.YtciikondckoboaaDoorBldM
import Derived.Test.YtciikondckoboaaDoorBun3
import Derived.Test.YtciikondckoboaaDoorBun1
import Derived.Test.YtciikondckoboaaDoorSignK
import Derived.Test.YtciikondckoboaaDoorDoorMet
import Derived.Stop.LaidErr
import Derived.LaidHandle
namespace Go.Proofs.YtciikondckoboaaDoor.Se
open Go.RowKit
open Go.Proofs.YtciikondckoboaaDoor.Bo (Box Box.new Box.kept)
set_option linter.unusedVariables false
/-- The package-level variable g holds the error of errors.New's make that lies at a. -/
def At (w : World) (g : Nat) (a : Addr) : Prop := w.cell? ⟨g, 0, none⟩ = some (.iface 136 (.pointer (some a)))
theorem At.kept {w w' : World} {g : Nat} {a : Addr} (h : At w g a) (k : Below w.heap.size w w') : At w' g a := by
  unfold At at h ⊢
  rw [k.cell (World.block_lt_of_cell? _ _ h)]
  exact h
theorem At.c {w : World} {g : Nat} {a : Addr} (h : At w g a) : w.cell? ⟨g, 0, none⟩ = some (.iface 136 (.pointer (some a))) := h
/-- The error v: none, or one of the program's own of the part p that wraps the error at a. -/
def Res (w : World) (v : Value) (r : Option (ByteArray × Addr)) : Prop :=
  (r = none ∧ v = .nilIface) ∨ ∃ p a b, r = some (p, a) ∧ v = .iface 85 (.pointer (some ⟨b, 0, none⟩)) ∧ Box w b #[.string p, .iface 136 (.pointer (some a))]
theorem Res.kept {w w' : World} {v : Value} {r : Option (ByteArray × Addr)} (h : Res w v r) (k : Below w.heap.size w w') : Res w' v r := by
  rcases h with h | ⟨p, a, b, h1, h2, h3⟩
  · exact .inl h
  · exact .inr ⟨p, a, b, h1, h2, h3.kept k⟩
theorem Res.none (w : World) : Res w .nilIface none := .inl ⟨rfl, rfl⟩
theorem Res.new (w : World) (p : ByteArray) (a : Addr) : Res (w.alloc (.cells #[.string p, .iface 136 (.pointer (some a))] 87)) (.iface 85 (.pointer (some ⟨w.heap.size, 0, Option.none⟩))) (some (p, a)) :=
  .inr ⟨p, a, w.heap.size, rfl, rfl, Box.new _ _ _⟩
theorem Res.newAt {w : World} {p : ByteArray} {a : Addr} {k : Nat} (h : w.heap.size = k) : Res (w.alloc (.cells #[.string p, .iface 136 (.pointer (some a))] 87)) (.iface 85 (.pointer (some ⟨k, 0, Option.none⟩))) (some (p, a)) := by
  subst h
  exact Res.new w p a
theorem Res.drew {w : World} {v : Value} {r : Option (ByteArray × Addr)} (h : Res w v r) : Res w.drew v r := by
  rcases h with h | ⟨p, a, b, h1, h2, h3⟩
  · exact .inl h
  · exact .inr ⟨p, a, b, h1, h2, h3.drew⟩
end Go.Proofs.YtciikondckoboaaDoor.Se
namespace Go.Proofs.YtciikondckoboaaDoor.Dd
open Go.ChangeShapes Go.WideShapes Go.ChangeAt Go.RowKit
open Cv Cu Sg
open Go.Proofs.YtciikondckoboaaDoor.Bo (Box Box.new Box.newAt Box.kept Box.alloc Box.put Box.other Box.c Box.drew)
open Go.Proofs.YtciikondckoboaaDoor.Ro (timB secB inB)
open Go.Proofs.YtciikondckoboaaDoor.Rc (BelowBy wp_region_below calls_below calls_same)
set_option linter.unusedVariables false
abbrev keyS : ByteArray := ⟨#[75, 101, 121]⟩
theorem ne_key {p : ByteArray} {a : Addr} (h : p ≠ keyS) : ∀ x, some (p, a) = some x → x.1 ≠ keyS := fun x hx => by
  cases hx
  exact h
set_option maxRecDepth 100000 in
set_option maxHeartbeats 4000000 in
theorem impl_sealFault (K1 K2 u R1 R2 T : Int) (s : ByteArray) (now : Int) (eN eV eO : Addr) (w : World) (ht : Tab w) (hN : Se.At w 0 eN) (hV : Se.At w 1 eV) (hO : Se.At w 2 eO) (hs : s.size ≤ 4611686018427370000) :
    Calls Tryd.prog 32 #[sv K1 K2 u R1 R2 T, .string s, .int .i64 now] w fun e w' => ∃ v r, e = .returned v ∧ Se.Res w' v r ∧ r.isNone = holdsB K1 K2 u R1 R2 T s now ∧ (∀ x, r = some x → x.1 ≠ keyS) ∧ Below w.heap.size w w' := by
  have CU := hidIt (fun W => impl_timeOk u W)
  have CN := hidIt (fun W => impl_timeOk now W)
  have CX : Hid (timB u = true → ∀ W, Tab W → Calls Tryd.prog 24 #[.int .i64 u, .string s] W fun e w' => e = .returned (.string (stx u.toNat s)) ∧ Below W.heap.size W w') := hidIt (fun h W t => by
    obtain ⟨m, rfl, hm⟩ := tim_nat h
    exact impl_sealed m s W hm hs t)
  have CV : Hid (timB u = true → ∀ W, Tab W → Calls Tryd.prog 14 #[.agg #[.int .i64 K1, .int .i64 K2], .string (stx u.toNat s), .agg #[.int .i64 R1, .int .i64 R2, .int .i64 T]] W fun e w' => e = .returned (.bool (validB K1 K2 (stx u.toNat s) R1 R2 T)) ∧ Below W.heap.size W w') := hidIt (fun h W t => by
    obtain ⟨m, rfl, hm⟩ := tim_nat h
    exact impl_Valid_any K1 K2 (stx m s) R1 R2 T W t (by have := stx_size (u := m) (s := s) (by omega); omega))
  have BA := hidIt (Box.new w (sc K1 K2 u R1 R2 T) 31)
  have HB : Hid (Below w.heap.size w (w.alloc (.cells (sc K1 K2 u R1 R2 T) 31))) := hidIt ((Below.refl w.heap.size w).alloc (Nat.le_refl _) _)
  have cN := (hN.kept HB.out).c
  have cV := (hV.kept HB.out).c
  have HT := hidIt ht
  have HO := hidIt hO
  clear ht hN hV hO
  have c2 := BA.out.c 2 (v := .int .i64 u) rfl
  unfold holdsB
  generalize validB K1 K2 (stx u.toNat s) R1 R2 T = va at CV ⊢
  generalize stx u.toNat s = tx at CX CV
  cases hn : timB now with
  | false =>
    rw [hn] at CN
    clear hn
    go_enter Tryd.func32, Tryd.ntmps32
    go_wp2_with (go_at_call 22; refine (CN.out _).mono ?_; rintro e w1 ⟨rfl, rfl⟩)
    go_ret
    exact ⟨_, some (_, _), rfl, Se.Res.newAt (by simp), by simp, ne_key (by decide), HB.out.alloc HB.out.size _⟩
  | true =>
    rw [hn] at CN
    clear hn
    cases hu : timB u with
    | false =>
      rw [hu] at CU
      clear hu
      go_enter Tryd.func32, Tryd.ntmps32
      go_wp2_with (go_at_call 22; (first | (with_reducible refine (CN.out _).mono ?_) | (with_reducible refine (CU.out _).mono ?_)); rintro e w1 ⟨rfl, rfl⟩)
      go_ret
      exact ⟨_, some (_, _), rfl, Se.Res.newAt (by simp), by simp, ne_key (by decide), HB.out.alloc HB.out.size _⟩
    | true =>
      replace CX := hidIt (CX.out hu)
      replace CV := hidIt (CV.out hu)
      rw [hu] at CU
      clear hu
      by_cases hle : u ≤ now
      · have hd : decide (now < u) = false := decide_eq_false (by omega)
        rw [hd]
        clear hd
        go_enter Tryd.func32, Tryd.ntmps32
        go_wp2_with (go_at_call 22; (first | (with_reducible refine (CN.out _).mono ?_) | (with_reducible refine (CU.out _).mono ?_)); rintro e w1 ⟨rfl, rfl⟩)
        go_ret
        exact ⟨_, some (_, _), rfl, Se.Res.newAt (by simp), by simp, ne_key (by decide), HB.out.alloc HB.out.size _⟩
      · have hd : decide (now < u) = true := decide_eq_true (by omega)
        rw [hd]
        clear hd
        go_enter Tryd.func32, Tryd.ntmps32
        go_upto_region 7 with (go_at_call 22; (first | (with_reducible refine (CN.out _).mono ?_) | (with_reducible refine (CU.out _).mono ?_)); rintro e w1 ⟨rfl, rfl⟩)
        clear cN cV c2
        generalize w.alloc (.cells (sc K1 K2 u R1 R2 T) 31) = wz at BA HB ⊢
        haveI := BelowBy.one wz
        have g0 := fun p : BelowBy wz => p.cell (BA.out.c 0 (v := .int .i64 K1) rfl)
        have g1 := fun p : BelowBy wz => p.cell (BA.out.c 1 (v := .int .i64 K2) rfl)
        have g2 := fun p : BelowBy wz => p.cell (BA.out.c 2 (v := .int .i64 u) rfl)
        have g3 := fun p : BelowBy wz => p.cell (BA.out.c 3 (v := .int .i64 R1) rfl)
        have g4 := fun p : BelowBy wz => p.cell (BA.out.c 4 (v := .int .i64 R2) rfl)
        have g5 := fun p : BelowBy wz => p.cell (BA.out.c 5 (v := .int .i64 T) rfl)
        have TP := hidIt (fun p : BelowBy wz => (HT.out.kept HB.out).kept p.h)
        refine wp_region_below (by kernel_rfl) (by kernel_rfl) ?_
        repeat (go_big_quiet_step (first | (go_at_call 24; exact calls_below (CX.out _ (TP.out _))) | (go_at_call 14; exact calls_below (CV.out _ (TP.out _)))))
        refine wpQuiet_nil ?_
        intro _ hw'
        obtain ⟨pq, rfl⟩ := hw'
        have k2 := pq.h
        generalize pq.world = w2 at k2 ⊢
        replace HB := hidIt (HB.out.trans (k2.mono HB.out.size))
        clear k2 g0 g1 g2 g3 g4 g5
        have cO := (HO.out.kept HB.out).c
        cases va with
        | false =>
          go_wp2_with (fail)
          go_ret
          exact ⟨_, some (_, _), rfl, Se.Res.newAt (by simp), by simp, ne_key (by decide), HB.out.alloc HB.out.size _⟩
        | true =>
          go_wp2_with (fail)
          go_ret
          exact ⟨_, _, rfl, Se.Res.none _, by simp, (fun x hx => by cases hx), HB.out⟩
set_option maxRecDepth 100000 in
set_option maxHeartbeats 4000000 in
theorem impl_Holds (K1 K2 u R1 R2 T : Int) (s : ByteArray) (now : Int) (eN eV eO : Addr) (w : World) (ht : Tab w) (hN : Se.At w 0 eN) (hV : Se.At w 1 eV) (hO : Se.At w 2 eO) (hs : s.size ≤ 4611686018427370000) :
    Calls Tryd.prog 10 #[sv K1 K2 u R1 R2 T, .string s, .int .i64 now] w fun e w' => e = .returned (.bool (holdsB K1 K2 u R1 R2 T s now)) ∧ Below w.heap.size w w' := by
  have HB : Hid (Below w.heap.size w (w.alloc (.cells (sc K1 K2 u R1 R2 T) 31))) := hidIt ((Below.refl w.heap.size w).alloc (Nat.le_refl _) _)
  have CF := hidIt (impl_sealFault K1 K2 u R1 R2 T s now eN eV eO _ (ht.kept HB.out) (hN.kept HB.out) (hV.kept HB.out) (hO.kept HB.out) hs)
  clear ht hN hV hO
  generalize holdsB K1 K2 u R1 R2 T s now = h at CF ⊢
  go_enter Tryd.func10, Tryd.ntmps10
  go_wp2_with (fail)
  refine CF.out.mono ?_
  rintro e w1 ⟨v, r, rfl, hR, hr, _, k⟩
  replace HB := hidIt (HB.out.trans (k.mono HB.out.size))
  clear k CF
  rcases hR with ⟨rfl, rfl⟩ | ⟨p, a, b, rfl, rfl, _⟩
  · go_wp2_with (fail)
    go_ret
    refine ⟨?_, HB.out⟩
    rw [← hr]
    rfl
  · go_wp2_with (fail)
    go_ret
    refine ⟨?_, HB.out⟩
    rw [← hr]
    rfl
end Go.Proofs.YtciikondckoboaaDoor.Dd
namespace Go.Proofs.YtciikondckoboaaDoor.Dd
open Go.ChangeShapes Go.WideShapes Go.ChangeAt Go.RowKit
open Cv Cu Sg
open Go.Proofs.YtciikondckoboaaDoor.Pt (Ln lat)
open Go.Proofs.YtciikondckoboaaDoor.Bl (Bld Bld.new Bld.kept writeString_any string_any)
open Go.Proofs.YtciikondckoboaaDoor.Bo (Box Box.new Box.newAt Box.kept Box.alloc Box.put Box.other Box.c Box.drew)
set_option linter.unusedVariables false
theorem keys_fit {L : List Ln} (h : ¬ L.length ≤ 4) : keysB L = false := by
  unfold keysB
  rw [decide_eq_false h, Bool.and_false]
theorem keysT_no {L : List Ln} (h : keysB L = false) : keysT L = ⟨#[]⟩ := by
  unfold keysT
  rw [h]
  rfl
theorem keysT_yes {L : List Ln} (h : keysB L = true) : keysT L = ktx L := by
  unfold keysT
  rw [h]
  rfl
theorem ktx_len {L : List Ln} {i : Nat} (h : (L.take i).all okP = true) (hi : i ≤ L.length) (h4 : L.length ≤ 4) : (ktx (L.take i)).size ≤ 176 := by
  have e : ∀ j, j < (L.take i).length → okP (lat (L.take i) j) = true := fun j hj => by
    rw [lat_eq hj]
    exact List.all_eq_true.1 h _ (List.getElem_mem hj)
  have := ktx_size e (L.take i).length (Nat.le_refl _)
  rw [List.take_length, List.length_take] at this
  omega
set_option maxRecDepth 100000 in
set_option maxHeartbeats 4000000 in
theorem impl_keysText (a : Option Addr) (cap : Nat) (L : List Ln) (eN eM : Addr) (w : World) (h : Pt.Rd w a L) (ht : Tab w) (hN : Se.At w 0 eN) (hM : Se.At w 3 eM) (hl : L.length ≤ 9223372036854775806) :
    Calls Tryd.prog 35 #[.slice a L.length cap] w fun e w' => ∃ v r, e = .returned (.tuple #[.string (keysT L), v]) ∧ Se.Res w' v r ∧ r.isNone = keysB L ∧ Below w.heap.size w w' := by
  by_cases h4 : L.length ≤ 4
  · have hbad : Hid (∀ i, i < L.length → okP (lat L i) = false → keysB L = false ∧ keysT L = ⟨#[]⟩) := hidIt (fun i hi k => ⟨keys_bad hi k, keysT_no (keys_bad hi k)⟩)
    have hend : Hid ((L.take L.length).all okP = true → keysB L = true ∧ keysT L = ktx (L.take L.length)) := hidIt (fun k => by
      have e : keysB L = true := by rw [keys_end k]; exact decide_eq_true h4
      exact ⟨e, by rw [keysT_yes e, List.take_length]⟩)
    have hst : Hid (∀ i, i < L.length → (L.take i).all okP = true → okP (lat L i) = true → (L.take (i + 1)).all okP = true) := hidIt (fun i hi h1 h2 => Nm.all_take hi h1 (by rw [← lat_eq hi]; exact h2))
    have htk : Hid (∀ i, i < L.length → ktx (L.take (i + 1)) = ktx (L.take i) ++ ptS (lat L i).1.toNat (lat L i).2.toNat) := hidIt (fun i hi => ktx_take hi)
    have hsz : Hid (∀ i, i ≤ L.length → (L.take i).all okP = true → (ktx (L.take i)).size ≤ 176) := hidIt (fun i hi k => ktx_len k hi h4)
    have HR := hidIt h
    have HT := hidIt ht
    have HN := hidIt hN
    clear h ht hN hM
    generalize keysB L = kb at hbad hend ⊢
    generalize keysT L = kt at hbad hend ⊢
    generalize hn : L.length = n at *
    have HL := hidIt hn
    clear hn
    have g4 : ¬ (n : Int) > 4 := by omega
    have HD := hidIt (Bld.new w)
    go_enter Tryd.func35, Tryd.ntmps35
    go_wp2_with (fail)
    go_loopw [16] (fun y wx => ∃ i : Nat, y = .int .i64 i ∧ i ≤ n ∧ Hid ((L.take i).all okP = true) ∧ Hid (Bld wx w.heap.size w.heap.size (ktx (L.take i)).data.toList) ∧ Hid (Below w.heap.size w wx)) (fun y _ => (n - intOf y).toNat)
    case atStart => exact ⟨0, rfl, by omega, hidIt rfl, HD, hidIt ((Below.refl _ _).alloc (Nat.le_refl _) _)⟩
    case round =>
      obtain ⟨i, rfl, hi, HA, HDx, HBx⟩ := hrel
      have hs1 := hsz.out i hi HA.out
      rcases Nat.lt_or_ge i n with hin | hin
      · have g2 : (i : Int) < (n : Int) := by omega
        obtain ⟨b, off, rfl, c0, c1⟩ := (HR.out.kept HBx.out).cell i (by rw [HL.out]; exact hin)
        have HS := hidIt (htk.out i hin)
        have Hb := hidIt (hbad.out i hin)
        have Hs := hidIt (hst.out i hin HA.out)
        have hq : okP (lat L i) = okI (lat L i).1 (lat L i).2 := rfl
        rw [hq] at Hb Hs
        clear hq
        have HK := hidIt (fun W => impl_PointOk (lat L i).1 (lat L i).2 W)
        generalize lat L i = p at *
        obtain ⟨x, y⟩ := p
        simp only at HK c0 c1 Hb Hs HS
        have kA := (Below.refl wr.heap.size wr).alloc (Nat.le_refl _) (.cells #[.int .i64 x, .int .i64 y] 27)
        have BX := hidIt (Box.new wr #[.int .i64 x, .int .i64 y] 27)
        have HDy := hidIt (HDx.out.kept kA)
        have HBy := hidIt (HBx.out.trans (kA.mono HBx.out.size))
        clear kA
        cases hk : okI x y with
        | false =>
          rw [hk] at HK
          obtain ⟨rfl, rfl⟩ := Hb.out hk
          clear hk
          go_wp2_with (fail)
          refine (HK.out _).mono ?_
          rintro e w1 ⟨rfl, k⟩
          replace HBy := hidIt (HBy.out.trans (k.mono HBy.out.size))
          clear k
          have cN := (HN.out.kept HBy.out).c
          go_wp2_with (fail)
          go_region
          all_goals
            go_wp2_with (fail)
            refine bodyPost_ret (v := .tuple #[.string ⟨#[]⟩, .iface 85 (.pointer (some ⟨w1.heap.size, 0, none⟩))]) (by simp [results, Tryd.results35, go_sem]) rfl ⟨_, some (_, _), rfl, (Se.Res.newAt rfl).drew, rfl, (HBy.out.alloc HBy.out.size _).drew⟩
        | true =>
          rw [hk] at HK
          have HA3 := hidIt (Hs.out hk)
          obtain ⟨x, y, rfl, rfl, hxy⟩ := okI_nat hk
          have hle := ok_le hxy
          have hs2 := ptS_size x y hle.1 hle.2
          have ep : ptS x y = (numS x ++ ⟨#[32]⟩) ++ (numS y ++ ⟨#[32]⟩) := by unfold ptS; simp only [ByteArray.append_assoc]; rfl
          simp only [Int.toNat_natCast] at HS
          rw [ep] at HS hs2
          have CX := hidIt (fun W t => impl_withBlank x W hle.1 t)
          have CY := hidIt (fun W t => impl_withBlank y W hle.2 t)
          clear hk hxy hle ep
          rw [ByteArray.size_append] at hs2
          generalize numS x ++ ⟨#[32]⟩ = tx at CX HS hs2
          generalize numS y ++ ⟨#[32]⟩ = ty at CY HS hs2
          generalize ktx (L.take i) = v at HS hs1 HDy HDx
          have q1 : ¬ 9223372036854775807 < tx.size + ty.size := by omega
          go_wp2_with (fail)
          refine (HK.out _).mono ?_
          rintro e w1 ⟨rfl, k⟩
          replace HBy := hidIt (HBy.out.trans (k.mono HBy.out.size))
          replace HDy := hidIt (HDy.out.kept k)
          replace BX := hidIt (BX.out.kept k)
          clear k
          have d0 := BX.out.c 0 (v := .int .i64 x) rfl
          have d1 := BX.out.c 1 (v := .int .i64 y) rfl
          have HTz := hidIt (HT.out.kept HBy.out)
          have HTd := hidIt (HTz.out.kept ((Below.refl w1.heap.size w1).drew))
          go_upto_region 9 with fail
          go_region_with (first
            | (go_at_call 49; first
              | ((with_reducible refine (CX.out _ HTd.out).mono ?_); rintro e wA ⟨rfl, kA⟩; have k := (Below.refl w1.heap.size w1).drew.trans kA; have HBA := hidIt (HBy.out.trans (k.mono HBy.out.size)); have HDA := hidIt (HDy.out.kept k); have BXA := hidIt (BX.out.kept k); have HTA := hidIt (HTz.out.kept k); clear k kA; have d1A := BXA.out.c 1 (v := .int .i64 y) rfl)
              | ((with_reducible refine (CY.out _ HTA.out).mono ?_); rintro e wB ⟨rfl, k⟩; have HBB := hidIt (HBA.out.trans (k.mono HBA.out.size)); have HDB := hidIt (HDA.out.kept k); clear k))
            | (go_at_call 60; refine (writeString_any _ _ _ (tx ++ ty) _ HDB.out (by rw [Array.length_toList, ByteArray.size_append]; show v.size + (tx.size + ty.size) ≤ _; omega)).mono ?_; rintro e wC ⟨rfl, hD, k⟩; have HDC := hidIt hD; have HBC := hidIt (HBB.out.trans k); clear hD k))
          all_goals
            go_wp2_with (fail)
            refine ⟨⟨i + 1, by simp, by omega, HA3, hidIt ?_, HBC⟩, by simp [intOf]; omega⟩
            rw [HS.out, ByteArray.data_append, Array.toList_append]
            exact HDC.out
      · have g2 : ¬ (i : Int) < (n : Int) := by omega
        have e : i = n := by omega
        subst e
        obtain ⟨rfl, rfl⟩ := hend.out HA.out
        have CS := hidIt (string_any _ _ _ _ HDx.out)
        go_wp2_with (fail)
        refine CS.out.mono ?_
        rintro e w3 ⟨rfl, k3⟩
        have HB3 := hidIt (HBx.out.trans k3)
        go_wp2_with (fail)
        refine bodyPost_ret (v := .tuple #[.string ⟨(ktx (L.take i)).data.toList.toArray⟩, .nilIface]) (by simp [results, Tryd.results35, go_sem]) rfl ⟨_, _, rfl, Se.Res.none _, rfl, HB3.out⟩
  · rw [keysT_no (keys_fit h4), keys_fit h4]
    have cM := hM.c
    have HW := hidIt (Below.refl w.heap.size w)
    generalize hn : L.length = n at *
    have g4 : (n : Int) > 4 := by omega
    clear h ht hN hM
    go_enter Tryd.func35, Tryd.ntmps35
    go_wp2_with (fail)
    go_region
    all_goals
      go_wp2_with (fail)
      refine bodyPost_ret (v := .tuple #[.string ⟨#[]⟩, .iface 85 (.pointer (some ⟨w.heap.size, 0, none⟩))]) (by simp [results, Tryd.results35, go_sem]) rfl ⟨_, some (_, _), rfl, (Se.Res.newAt rfl).drew, rfl, (HW.out.alloc HW.out.size _).drew⟩
set_option maxRecDepth 100000 in
set_option maxHeartbeats 4000000 in
theorem impl_KeysText (a : Option Addr) (cap : Nat) (L : List Ln) (eN eM : Addr) (w : World) (h : Pt.Rd w a L) (ht : Tab w) (hN : Se.At w 0 eN) (hM : Se.At w 3 eM) (hl : L.length ≤ 9223372036854775806) :
    Calls Tryd.prog 12 #[.slice a L.length cap] w fun e w' => e = .returned (.string (keysT L)) ∧ Below w.heap.size w w' := by
  have CK := hidIt (impl_keysText a cap L eN eM w h ht hN hM hl)
  clear h ht hN hM
  generalize hn : L.length = n at *
  clear hn
  go_enter Tryd.func12, Tryd.ntmps12
  go_wp2_with (fail)
  refine CK.out.mono ?_
  rintro e w1 ⟨v, r, rfl, _, _, k⟩
  have HB := hidIt k
  clear k CK
  go_wp2_with (fail)
  go_ret
  exact ⟨rfl, HB.out⟩
end Go.Proofs.YtciikondckoboaaDoor.Dd
namespace Go.Proofs.YtciikondckoboaaDoor.Dd
open Go.ChangeShapes Go.WideShapes Go.ChangeAt Go.RowKit
open Cv Cu Sg
open Go.Proofs.YtciikondckoboaaDoor.Ro (timB secB inB)
set_option linter.unusedVariables false
theorem holds_facts {K1 K2 u R1 R2 T : Int} {s : ByteArray} {now : Int} (h : holdsB K1 K2 u R1 R2 T s now = true) : ∃ m : Nat, u = (m : Int) ∧ m ≤ 1000000 ∧ now < u ∧ validB K1 K2 (stx m s) R1 R2 T = true := by
  unfold holdsB at h
  simp only [Bool.and_eq_true, decide_eq_true_eq] at h
  obtain ⟨h1, _, h3, h4⟩ := h
  obtain ⟨m, rfl, hm⟩ := tim_nat h1
  exact ⟨m, rfl, hm, h3, h4⟩
theorem tim_of {n : Int} (h0 : 0 ≤ n) (h1 : n ≤ 1000000) : timB n = true := by
  unfold timB inB
  simp only [Bool.and_eq_true, decide_eq_true_eq]
  omega
theorem holds_at {K1 K2 R1 R2 T : Int} {v : Nat} {s : ByteArray} (hv : v ≤ 1000000) (h0 : 0 < v) : holdsB K1 K2 v R1 R2 T s ((v : Int) - 1) = validB K1 K2 (stx v s) R1 R2 T := by
  unfold holdsB
  rw [tim_of (n := (v : Int)) (by omega) (by omega), tim_of (n := (v : Int) - 1) (by omega) (by omega), decide_eq_true (show (v : Int) - 1 < (v : Int) by omega), Bool.true_and, Bool.true_and, Bool.true_and, Int.toNat_natCast]
theorem holds_over {K1 K2 R1 R2 T : Int} {v : Nat} {s : ByteArray} : holdsB K1 K2 v R1 R2 T s v = false := by
  unfold holdsB
  rw [decide_eq_false (show ¬ (v : Int) < (v : Int) by omega), Bool.false_and, Bool.and_false, Bool.and_false]
theorem seal_letters (m v : Nat) (s : ByteArray) (m1 : 0 < m) (m2 : m < 2549) (hv : v ≤ 1000000) (hs : s.size ≤ 6) : ∃ (K1 K2 R1 R2 T c1 c2 : Int) (x : ByteArray), x.size ≤ 21 ∧
    sealN m v s = (K1, K2, (v : Int), R1, R2, T) ∧
    (∀ W, Calls Tryd.prog 15 #[.int .i64 v] W fun e w' => e = .returned (.string x) ∧ Below W.heap.size W w') ∧
    (∀ W, Tab W → Calls Tryd.prog 16 #[.agg #[.int .i64 R1, .int .i64 R2], .agg #[.int .i64 K1, .int .i64 K2], .string (x ++ ⟨#[32]⟩ ++ s)] W fun e w' => e = .returned (.int .i64 c1) ∧ Below W.heap.size W w') ∧
    (∀ W, Tab W → Calls Tryd.prog 16 #[.agg #[.int .i64 R1, .int .i64 R2], .agg #[.int .i64 K1, .int .i64 K2], .string (x ++ ⟨#[32]⟩ ++ (s ++ ⟨#[120]⟩))] W fun e w' => e = .returned (.int .i64 c2) ∧ Below W.heap.size W w') ∧
    (0 < v → holdsB K1 K2 v R1 R2 T s ((v : Int) - 1) = true) ∧
    (0 < v → holdsB K1 K2 v R1 R2 T (s ++ ⟨#[120]⟩) ((v : Int) - 1) = (c1 == c2)) ∧
    holdsB K1 K2 v R1 R2 T s v = false ∧
    (∀ W, Calls Tryd.prog 17 #[.int .i64 m] W fun e w' => e = .returned (.tuple #[.agg #[.int .i64 K1, .int .i64 K2], .bool true]) ∧ Below W.heap.size W w') := by
  have hx := numS_size v (by omega)
  have e0 : (⟨#[32]⟩ : ByteArray).size = 1 := rfl
  have e1 : (⟨#[120]⟩ : ByteArray).size = 1 := rfl
  have t1 : (stx v s).size ≤ 9223372036854775807 := by have := stx_size (u := v) (s := s) (by omega); omega
  have t2 : (stx v (s ++ ⟨#[120]⟩)).size ≤ 9223372036854775807 := by have := stx_size (u := v) (s := s ++ ⟨#[120]⟩) (by omega); rw [ByteArray.size_append] at this; omega
  have a1 := fun W t => impl_Challenge_yes (sgR m (stx v s)).1 (sgR m (stx v s)).2 (ns (2791, 6375) m).1 (ns (2791, 6375) m).2 (stx v s) W (sgR_ok _ _) (key_ok _) t1 t
  have a2 := fun W t => impl_Challenge_yes (sgR m (stx v s)).1 (sgR m (stx v s)).2 (ns (2791, 6375) m).1 (ns (2791, 6375) m).2 (stx v (s ++ ⟨#[120]⟩)) W (sgR_ok _ _) (key_ok _) t2 t
  have a3 := sealN_eq m v s
  have a4 := fun W => impl_KeyOf_yes m W m1 m2
  have a5 := valid_same m (stx v s) m1 m2
  have a6 := valid_seal m (stx v s) (stx v (s ++ ⟨#[120]⟩)) m1 m2
  rw [sgC_eq] at a6
  have s1 := stx_eq v s
  have s2 := stx_eq v (s ++ ⟨#[120]⟩)
  generalize ht1 : stx v s = tx at a1 a2 a3 a5 a6 s1 t1
  generalize ht2 : stx v (s ++ ⟨#[120]⟩) = ty at a2 a6 s2 t2
  generalize chN (sgR m tx).1 (sgR m tx).2 (ns (2791, 6375) m).1 (ns (2791, 6375) m).2 tx = c at a1 a6
  generalize chN (sgR m tx).1 (sgR m tx).2 (ns (2791, 6375) m).1 (ns (2791, 6375) m).2 ty = d at a2 a6
  generalize ((sgR m tx).1 : Int) = R1 at *
  generalize ((sgR m tx).2 : Int) = R2 at *
  generalize (sgT m tx : Int) = T at *
  generalize ((ns (2791, 6375) m).1 : Int) = K1 at *
  generalize ((ns (2791, 6375) m).2 : Int) = K2 at *
  rw [s1] at a1
  rw [s2] at a2
  refine ⟨K1, K2, R1, R2, T, c, d, numS v, hx, a3, fun W => digits_S v W (by omega), a1, a2, fun h0 => ?_, fun h0 => ?_, holds_over, a4⟩
  · rw [holds_at hv h0, ht1]
    exact a5
  · rw [holds_at hv h0, ht2, a6]
    by_cases h : d = c
    · subst h
      simp
    · rw [decide_eq_false h]
      refine (beq_eq_false_iff_ne.2 (fun k => h ?_)).symm
      omega
theorem seal_cases (n : Int) (s : ByteArray) (u : Int) (hs : s.size ≤ 6) : ∃ (K1 K2 U R1 R2 T : Int) (f : Bool), sealR n s u = ((K1, K2, U, R1, R2, T), f) ∧
    ((f = false ∧ K1 = 0 ∧ K2 = 0 ∧ U = 0 ∧ R1 = 0 ∧ R2 = 0 ∧ T = 0) ∨ (f = true ∧ ∃ (v : Nat) (c1 c2 : Int) (x : ByteArray), u = (v : Int) ∧ U = (v : Int) ∧ v ≤ 1000000 ∧ x.size ≤ 21 ∧
      (∀ W, Calls Tryd.prog 15 #[.int .i64 v] W fun e w' => e = .returned (.string x) ∧ Below W.heap.size W w') ∧
      (∀ W, Tab W → Calls Tryd.prog 16 #[.agg #[.int .i64 R1, .int .i64 R2], .agg #[.int .i64 K1, .int .i64 K2], .string (x ++ ⟨#[32]⟩ ++ s)] W fun e w' => e = .returned (.int .i64 c1) ∧ Below W.heap.size W w') ∧
      (∀ W, Tab W → Calls Tryd.prog 16 #[.agg #[.int .i64 R1, .int .i64 R2], .agg #[.int .i64 K1, .int .i64 K2], .string (x ++ ⟨#[32]⟩ ++ (s ++ ⟨#[120]⟩))] W fun e w' => e = .returned (.int .i64 c2) ∧ Below W.heap.size W w') ∧
      (0 < v → holdsB K1 K2 v R1 R2 T s ((v : Int) - 1) = true) ∧
      (0 < v → holdsB K1 K2 v R1 R2 T (s ++ ⟨#[120]⟩) ((v : Int) - 1) = (c1 == c2)) ∧
      holdsB K1 K2 v R1 R2 T s v = false ∧
      (∀ W, Calls Tryd.prog 17 #[.int .i64 n] W fun e w' => e = .returned (.tuple #[.agg #[.int .i64 K1, .int .i64 K2], .bool true]) ∧ Below W.heap.size W w'))) := by
  cases h1 : secB n with
  | false => exact ⟨0, 0, 0, 0, 0, 0, false, sealR_no (.inl h1), .inl ⟨rfl, rfl, rfl, rfl, rfl, rfl, rfl⟩⟩
  | true =>
    cases h2 : timB u with
    | false => exact ⟨0, 0, 0, 0, 0, 0, false, sealR_no (.inr h2), .inl ⟨rfl, rfl, rfl, rfl, rfl, rfl, rfl⟩⟩
    | true =>
      obtain ⟨m, rfl, m1, m2⟩ := sec_nat h1
      obtain ⟨v, rfl, hv⟩ := tim_nat h2
      obtain ⟨K1, K2, R1, R2, T, c1, c2, x, hx, e, l1, l2, l3, l4, l5, l6, l7⟩ := seal_letters m v s m1 m2 hv hs
      exact ⟨K1, K2, v, R1, R2, T, true, by rw [sealR_yes h1 h2, e], .inr ⟨rfl, v, c1, c2, x, rfl, rfl, hv, hx, l1, l2, l3, l4, l5, l6, l7⟩⟩
end Go.Proofs.YtciikondckoboaaDoor.Dd
namespace Go.Proofs.YtciikondckoboaaDoor.Se
open Go.RowKit Go.ChangeShapes
set_option linter.unusedVariables false
theorem star : "*" ++ "errors.errorString" = "*errors.errorString" := by decide
theorem row (u : TypeId) (h : Tryd.prog.typeName? 3 u = some "*errors.errorString") : u = 136 :=
  typeName_ptr_named (nm := "errors.errorString") (by rw [star]; kernel_rfl) (by kernel_rfl) (by decide) u (by rw [star]; exact h)
theorem cellsE : Tryd.prog.cellsOf 151 = 1 := by kernel_rfl
theorem cellsS : Tryd.prog.cellsOf 9 = 1 := by kernel_rfl
theorem at_of_var {w : World} {n : String} {g : Nat} {a : Addr} (hg : Tryd.prog.globalNamed n = some g) (h : w.var? Tryd.prog n = some #[.iface 136 (.pointer (some a))]) : At w g a := by
  unfold At
  simpa using World.var?_cell hg h 0
theorem var_kept {w w' : World} {n : String} {cs : Array Value} (h : w.var? Tryd.prog n = some cs) (k : Below w.heap.size w w') : w'.var? Tryd.prog n = some cs := by
  unfold World.var? at h ⊢
  cases hg : Tryd.prog.globalNamed n with
  | none => simp [hg] at h
  | some g =>
    simp only [hg, Option.bind_some] at h ⊢
    have hlt : g < w.heap.size := by
      rcases Nat.lt_or_ge g w.heap.size with h' | h'
      · exact h'
      · simp [Array.getElem?_eq_none h'] at h
    rw [k.block g hlt]
    exact h
theorem vars_nil {H : Type} (enc : TypeId × Value → H) {W : World} (sp : Nat → Bool) : DataW.TrodVars enc Tryd.prog W sp [] [] [] := rfl
theorem vars_cons {H : Type} (enc : TypeId × Value → H) {W : World} {n : String} {g : Nat} {x : Value} {ns : List String} {gs : List (DataW H)} {q : List MemPlace}
    (hg : Tryd.prog.globalNamed n = some g) (ht : (Tryd.prog.globals[g]?).map (·.type) = some 59) (h : W.var? Tryd.prog n = some #[x]) (ix : IsIface x) {sp : Nat → Bool} (r : DataW.TrodVars enc Tryd.prog W sp ns gs q) :
    DataW.TrodVars enc Tryd.prog W sp (n :: ns) (tok enc x :: gs) (.cell g 0 :: q) :=
  ⟨g, 59, #[x], 1, [], q, hg, ht, h, trod_held Tryd.underlying59 ix 0, r, rfl⟩
end Go.Proofs.YtciikondckoboaaDoor.Se
