/-
  Errors in memory: a package-level variable that holds an error of errors.New's make; an error of the program's own that wraps one, or none.
  sealFault and Holds of the program.
  KeysText of the program (a strings.Builder; a fault where something is not as told).
  DsOf of the program.
  What a law's list says of the program's errors of errors.New's make (and, where the law meets errors.As, of the library's handle of the type error), and that they stay.
-/
import Derived.Test.YtciikondckoboaaGreatDoorBoxM
import Derived.Test.YtciikondckoboaaGreatDoorBun4
import Derived.Test.YtciikondckoboaaGreatDoorBldM
import Derived.Test.YtciikondckoboaaGreatDoorBun2
import Derived.Test.YtciikondckoboaaGreatDoorDoorMet
import Derived.Stop.LaidErr
import Derived.LaidHandle
namespace Go.Proofs.YtciikondckoboaaGreatDoor.Se
open Go.RowKit
open Go.Proofs.YtciikondckoboaaGreatDoor.Bo (Box Box.new Box.kept)
set_option linter.unusedVariables false
/-- The package-level variable g holds the error of errors.New's make that lies at a. -/
def At (w : World) (g : Nat) (a : Addr) : Prop := w.cell? ⟨g, 0, none⟩ = some (.iface 187 (.pointer (some a)))
theorem At.kept {w w' : World} {g : Nat} {a : Addr} (h : At w g a) (k : Below w.heap.size w w') : At w' g a := by
  unfold At at h ⊢
  rw [k.cell (World.block_lt_of_cell? _ _ h)]
  exact h
theorem At.c {w : World} {g : Nat} {a : Addr} (h : At w g a) : w.cell? ⟨g, 0, none⟩ = some (.iface 187 (.pointer (some a))) := h
/-- The error v: none, or one of the program's own of the part p that wraps the error at a. -/
def Res (w : World) (v : Value) (r : Option (ByteArray × Addr)) : Prop :=
  (r = none ∧ v = .nilIface) ∨ ∃ p a b, r = some (p, a) ∧ v = .iface 74 (.pointer (some ⟨b, 0, none⟩)) ∧ Box w b #[.string p, .iface 187 (.pointer (some a))]
theorem Res.kept {w w' : World} {v : Value} {r : Option (ByteArray × Addr)} (h : Res w v r) (k : Below w.heap.size w w') : Res w' v r := by
  rcases h with h | ⟨p, a, b, h1, h2, h3⟩
  · exact .inl h
  · exact .inr ⟨p, a, b, h1, h2, h3.kept k⟩
theorem Res.none (w : World) : Res w .nilIface none := .inl ⟨rfl, rfl⟩
theorem Res.new (w : World) (p : ByteArray) (a : Addr) : Res (w.alloc (.cells #[.string p, .iface 187 (.pointer (some a))] 76)) (.iface 74 (.pointer (some ⟨w.heap.size, 0, Option.none⟩))) (some (p, a)) :=
  .inr ⟨p, a, w.heap.size, rfl, rfl, Box.new _ _ _⟩
theorem Res.newAt {w : World} {p : ByteArray} {a : Addr} {k : Nat} (h : w.heap.size = k) : Res (w.alloc (.cells #[.string p, .iface 187 (.pointer (some a))] 76)) (.iface 74 (.pointer (some ⟨k, 0, Option.none⟩))) (some (p, a)) := by
  subst h
  exact Res.new w p a
theorem Res.drew {w : World} {v : Value} {r : Option (ByteArray × Addr)} (h : Res w v r) : Res w.drew v r := by
  rcases h with h | ⟨p, a, b, h1, h2, h3⟩
  · exact .inl h
  · exact .inr ⟨p, a, b, h1, h2, h3.drew⟩
end Go.Proofs.YtciikondckoboaaGreatDoor.Se
namespace Go.Proofs.YtciikondckoboaaGreatDoor.Dd
open Go.ChangeShapes Go.WideShapes Go.ChangeAt Go.RowKit
open Cv Cu Sg
open Go.Proofs.YtciikondckoboaaGreatDoor.Bo (Box Box.new Box.newAt Box.kept Box.alloc Box.put Box.other Box.c Box.drew)
open Go.Proofs.YtciikondckoboaaGreatDoor.Ro (timB secB inB)
open Go.Proofs.YtciikondckoboaaGreatDoor.Rc (BelowBy wp_region_below calls_below calls_same)
set_option linter.unusedVariables false
abbrev keyS : ByteArray := ⟨#[75, 101, 121]⟩
theorem ne_key {p : ByteArray} {a : Addr} (h : p ≠ keyS) : ∀ x, some (p, a) = some x → x.1 ≠ keyS := fun x hx => by
  cases hx
  exact h
set_option maxRecDepth 100000 in
set_option maxHeartbeats 4000000 in
theorem impl_sealFault (K1 K2 u R1 R2 T : Int) (s : ByteArray) (now : Int) (eN eV eO : Addr) (w : World) (ht : Tab w) (hN : Se.At w 0 eN) (hV : Se.At w 1 eV) (hO : Se.At w 2 eO) (hs : s.size ≤ 4611686018427370000) :
    Calls Tryz.prog 32 #[sv K1 K2 u R1 R2 T, .string s, .int .i64 now] w fun e w' => ∃ v r, e = .returned v ∧ Se.Res w' v r ∧ r.isNone = holdsB K1 K2 u R1 R2 T s now ∧ (∀ x, r = some x → x.1 ≠ keyS) ∧ Below w.heap.size w w' := by
  have CU := hidIt (fun W => impl_timeOk u W)
  have CN := hidIt (fun W => impl_timeOk now W)
  have CX : Hid (timB u = true → ∀ W, Tab W → Calls Tryz.prog 60 #[.int .i64 u, .string s] W fun e w' => e = .returned (.string (stx u.toNat s)) ∧ Below W.heap.size W w') := hidIt (fun h W t => by
    obtain ⟨m, rfl, hm⟩ := tim_nat h
    exact impl_sealed m s W hm hs t)
  have CV : Hid (timB u = true → ∀ W, Tab W → Calls Tryz.prog 59 #[.agg #[.int .i64 K1, .int .i64 K2], .string (stx u.toNat s), .agg #[.int .i64 R1, .int .i64 R2, .int .i64 T]] W fun e w' => e = .returned (.bool (validB K1 K2 (stx u.toNat s) R1 R2 T)) ∧ Below W.heap.size W w') := hidIt (fun h W t => by
    obtain ⟨m, rfl, hm⟩ := tim_nat h
    exact impl_Valid_any K1 K2 (stx m s) R1 R2 T W t (by have := stx_size (u := m) (s := s) (by omega); omega))
  have BA := hidIt (Box.new w (sc K1 K2 u R1 R2 T) 30)
  have HB : Hid (Below w.heap.size w (w.alloc (.cells (sc K1 K2 u R1 R2 T) 30))) := hidIt ((Below.refl w.heap.size w).alloc (Nat.le_refl _) _)
  have cN := (hN.kept HB.out).c
  have cV := (hV.kept HB.out).c
  have HT := hidIt ht
  have HO := hidIt hO
  clear ht hN hV hO
  have c2 := BA.out.c 2 (v := .int .i64 u) rfl
  unfold holdsB
  generalize validB K1 K2 (stx u.toNat s) R1 R2 T = va at CV ⊢
  generalize stx u.toNat s = tx at CX CV
  cases hn : timB now with
  | false =>
    rw [hn] at CN
    clear hn
    go_enter Tryz.func32, Tryz.ntmps32
    go_wp2_with (go_at_call 58; refine (CN.out _).mono ?_; rintro e w1 ⟨rfl, rfl⟩)
    go_ret
    exact ⟨_, some (_, _), rfl, Se.Res.newAt (by simp), by simp, ne_key (by decide), HB.out.alloc HB.out.size _⟩
  | true =>
    rw [hn] at CN
    clear hn
    cases hu : timB u with
    | false =>
      rw [hu] at CU
      clear hu
      go_enter Tryz.func32, Tryz.ntmps32
      go_wp2_with (go_at_call 58; (first | (with_reducible refine (CN.out _).mono ?_) | (with_reducible refine (CU.out _).mono ?_)); rintro e w1 ⟨rfl, rfl⟩)
      go_ret
      exact ⟨_, some (_, _), rfl, Se.Res.newAt (by simp), by simp, ne_key (by decide), HB.out.alloc HB.out.size _⟩
    | true =>
      replace CX := hidIt (CX.out hu)
      replace CV := hidIt (CV.out hu)
      rw [hu] at CU
      clear hu
      by_cases hle : u ≤ now
      · have hd : decide (now < u) = false := decide_eq_false (by omega)
        rw [hd]
        clear hd
        go_enter Tryz.func32, Tryz.ntmps32
        go_wp2_with (go_at_call 58; (first | (with_reducible refine (CN.out _).mono ?_) | (with_reducible refine (CU.out _).mono ?_)); rintro e w1 ⟨rfl, rfl⟩)
        go_ret
        exact ⟨_, some (_, _), rfl, Se.Res.newAt (by simp), by simp, ne_key (by decide), HB.out.alloc HB.out.size _⟩
      · have hd : decide (now < u) = true := decide_eq_true (by omega)
        rw [hd]
        clear hd
        go_enter Tryz.func32, Tryz.ntmps32
        go_upto_region 7 with (go_at_call 58; (first | (with_reducible refine (CN.out _).mono ?_) | (with_reducible refine (CU.out _).mono ?_)); rintro e w1 ⟨rfl, rfl⟩)
        clear cN cV c2
        generalize w.alloc (.cells (sc K1 K2 u R1 R2 T) 30) = wz at BA HB ⊢
        haveI := BelowBy.one wz
        have g0 := fun p : BelowBy wz => p.cell (BA.out.c 0 (v := .int .i64 K1) rfl)
        have g1 := fun p : BelowBy wz => p.cell (BA.out.c 1 (v := .int .i64 K2) rfl)
        have g2 := fun p : BelowBy wz => p.cell (BA.out.c 2 (v := .int .i64 u) rfl)
        have g3 := fun p : BelowBy wz => p.cell (BA.out.c 3 (v := .int .i64 R1) rfl)
        have g4 := fun p : BelowBy wz => p.cell (BA.out.c 4 (v := .int .i64 R2) rfl)
        have g5 := fun p : BelowBy wz => p.cell (BA.out.c 5 (v := .int .i64 T) rfl)
        have TP := hidIt (fun p : BelowBy wz => (HT.out.kept HB.out).kept p.h)
        refine wp_region_below (by kernel_rfl) (by kernel_rfl) ?_
        repeat (go_big_quiet_step (first | (go_at_call 60; exact calls_below (CX.out _ (TP.out _))) | (go_at_call 59; exact calls_below (CV.out _ (TP.out _)))))
        refine wpQuiet_nil ?_
        intro _ hw'
        obtain ⟨pq, rfl⟩ := hw'
        have k2 := pq.h
        generalize pq.world = w2 at k2 ⊢
        replace HB := hidIt (HB.out.trans (k2.mono HB.out.size))
        clear k2 g0 g1 g2 g3 g4 g5
        have cO := (HO.out.kept HB.out).c
        cases va with
        | false =>
          go_wp2_with (fail)
          go_ret
          exact ⟨_, some (_, _), rfl, Se.Res.newAt (by simp), by simp, ne_key (by decide), HB.out.alloc HB.out.size _⟩
        | true =>
          go_wp2_with (fail)
          go_ret
          exact ⟨_, _, rfl, Se.Res.none _, by simp, (fun x hx => by cases hx), HB.out⟩
set_option maxRecDepth 100000 in
set_option maxHeartbeats 4000000 in
theorem impl_Holds (K1 K2 u R1 R2 T : Int) (s : ByteArray) (now : Int) (eN eV eO : Addr) (w : World) (ht : Tab w) (hN : Se.At w 0 eN) (hV : Se.At w 1 eV) (hO : Se.At w 2 eO) (hs : s.size ≤ 4611686018427370000) :
    Calls Tryz.prog 11 #[sv K1 K2 u R1 R2 T, .string s, .int .i64 now] w fun e w' => e = .returned (.bool (holdsB K1 K2 u R1 R2 T s now)) ∧ Below w.heap.size w w' := by
  have HB : Hid (Below w.heap.size w (w.alloc (.cells (sc K1 K2 u R1 R2 T) 30))) := hidIt ((Below.refl w.heap.size w).alloc (Nat.le_refl _) _)
  have CF := hidIt (impl_sealFault K1 K2 u R1 R2 T s now eN eV eO _ (ht.kept HB.out) (hN.kept HB.out) (hV.kept HB.out) (hO.kept HB.out) hs)
  clear ht hN hV hO
  generalize holdsB K1 K2 u R1 R2 T s now = h at CF ⊢
  go_enter Tryz.func11, Tryz.ntmps11
  go_wp2_with (fail)
  refine CF.out.mono ?_
  rintro e w1 ⟨v, r, rfl, hR, hr, _, k⟩
  replace HB := hidIt (HB.out.trans (k.mono HB.out.size))
  clear k CF
  rcases hR with ⟨rfl, rfl⟩ | ⟨p, a, b, rfl, rfl, _⟩
  · go_wp2_with (fail)
    go_ret
    refine ⟨?_, HB.out⟩
    rw [← hr]
    rfl
  · go_wp2_with (fail)
    go_ret
    refine ⟨?_, HB.out⟩
    rw [← hr]
    rfl
end Go.Proofs.YtciikondckoboaaGreatDoor.Dd
namespace Go.Proofs.YtciikondckoboaaGreatDoor.Dd
open Go.ChangeShapes Go.WideShapes Go.ChangeAt Go.RowKit
open Cv Cu Sg
open Go.Proofs.YtciikondckoboaaGreatDoor.Pt (Ln lat)
open Go.Proofs.YtciikondckoboaaGreatDoor.Bl (Bld Bld.new Bld.kept writeString_any string_any)
open Go.Proofs.YtciikondckoboaaGreatDoor.Bo (Box Box.new Box.newAt Box.kept Box.alloc Box.put Box.other Box.c Box.drew)
set_option linter.unusedVariables false
theorem keys_fit {L : List Ln} (h : ¬ L.length ≤ 4) : keysB L = false := by
  unfold keysB
  rw [decide_eq_false h, Bool.and_false]
theorem keysT_no {L : List Ln} (h : keysB L = false) : keysT L = ⟨#[]⟩ := by
  unfold keysT
  rw [h]
  rfl
theorem keysT_yes {L : List Ln} (h : keysB L = true) : keysT L = ktx L := by
  unfold keysT
  rw [h]
  rfl
theorem ktx_len {L : List Ln} {i : Nat} (h : (L.take i).all okP = true) (hi : i ≤ L.length) (h4 : L.length ≤ 4) : (ktx (L.take i)).size ≤ 176 := by
  have e : ∀ j, j < (L.take i).length → okP (lat (L.take i) j) = true := fun j hj => by
    rw [lat_eq hj]
    exact List.all_eq_true.1 h _ (List.getElem_mem hj)
  have := ktx_size e (L.take i).length (Nat.le_refl _)
  rw [List.take_length, List.length_take] at this
  omega
set_option maxRecDepth 100000 in
set_option maxHeartbeats 4000000 in
theorem impl_keysText (a : Option Addr) (cap : Nat) (L : List Ln) (eN eM : Addr) (w : World) (h : Pt.Rd w a L) (ht : Tab w) (hN : Se.At w 0 eN) (hM : Se.At w 3 eM) (hl : L.length ≤ 9223372036854775806) :
    Calls Tryz.prog 41 #[.slice a L.length cap] w fun e w' => ∃ v r, e = .returned (.tuple #[.string (keysT L), v]) ∧ Se.Res w' v r ∧ r.isNone = keysB L ∧ Below w.heap.size w w' := by
  by_cases h4 : L.length ≤ 4
  · have hbad : Hid (∀ i, i < L.length → okP (lat L i) = false → keysB L = false ∧ keysT L = ⟨#[]⟩) := hidIt (fun i hi k => ⟨keys_bad hi k, keysT_no (keys_bad hi k)⟩)
    have hend : Hid ((L.take L.length).all okP = true → keysB L = true ∧ keysT L = ktx (L.take L.length)) := hidIt (fun k => by
      have e : keysB L = true := by rw [keys_end k]; exact decide_eq_true h4
      exact ⟨e, by rw [keysT_yes e, List.take_length]⟩)
    have hst : Hid (∀ i, i < L.length → (L.take i).all okP = true → okP (lat L i) = true → (L.take (i + 1)).all okP = true) := hidIt (fun i hi h1 h2 => Nm.all_take hi h1 (by rw [← lat_eq hi]; exact h2))
    have htk : Hid (∀ i, i < L.length → ktx (L.take (i + 1)) = ktx (L.take i) ++ ptS (lat L i).1.toNat (lat L i).2.toNat) := hidIt (fun i hi => ktx_take hi)
    have hsz : Hid (∀ i, i ≤ L.length → (L.take i).all okP = true → (ktx (L.take i)).size ≤ 176) := hidIt (fun i hi k => ktx_len k hi h4)
    have HR := hidIt h
    have HT := hidIt ht
    have HN := hidIt hN
    clear h ht hN hM
    generalize keysB L = kb at hbad hend ⊢
    generalize keysT L = kt at hbad hend ⊢
    generalize hn : L.length = n at *
    have HL := hidIt hn
    clear hn
    have g4 : ¬ (n : Int) > 4 := by omega
    have HD := hidIt (Bld.new w)
    go_enter Tryz.func41, Tryz.ntmps41
    go_wp2_with (fail)
    go_loopw [16] (fun y wx => ∃ i : Nat, y = .int .i64 i ∧ i ≤ n ∧ Hid ((L.take i).all okP = true) ∧ Hid (Bld wx w.heap.size w.heap.size (ktx (L.take i)).data.toList) ∧ Hid (Below w.heap.size w wx)) (fun y _ => (n - intOf y).toNat)
    case atStart => exact ⟨0, rfl, by omega, hidIt rfl, HD, hidIt ((Below.refl _ _).alloc (Nat.le_refl _) _)⟩
    case round =>
      obtain ⟨i, rfl, hi, HA, HDx, HBx⟩ := hrel
      have hs1 := hsz.out i hi HA.out
      rcases Nat.lt_or_ge i n with hin | hin
      · have g2 : (i : Int) < (n : Int) := by omega
        obtain ⟨b, off, rfl, c0, c1⟩ := (HR.out.kept HBx.out).cell i (by rw [HL.out]; exact hin)
        have HS := hidIt (htk.out i hin)
        have Hb := hidIt (hbad.out i hin)
        have Hs := hidIt (hst.out i hin HA.out)
        have hq : okP (lat L i) = okI (lat L i).1 (lat L i).2 := rfl
        rw [hq] at Hb Hs
        clear hq
        have HK := hidIt (fun W => impl_PointOk (lat L i).1 (lat L i).2 W)
        generalize lat L i = p at *
        obtain ⟨x, y⟩ := p
        simp only at HK c0 c1 Hb Hs HS
        have kA := (Below.refl wr.heap.size wr).alloc (Nat.le_refl _) (.cells #[.int .i64 x, .int .i64 y] 26)
        have BX := hidIt (Box.new wr #[.int .i64 x, .int .i64 y] 26)
        have HDy := hidIt (HDx.out.kept kA)
        have HBy := hidIt (HBx.out.trans (kA.mono HBx.out.size))
        clear kA
        cases hk : okI x y with
        | false =>
          rw [hk] at HK
          obtain ⟨rfl, rfl⟩ := Hb.out hk
          clear hk
          go_wp2_with (fail)
          refine (HK.out _).mono ?_
          rintro e w1 ⟨rfl, k⟩
          replace HBy := hidIt (HBy.out.trans (k.mono HBy.out.size))
          clear k
          have cN := (HN.out.kept HBy.out).c
          go_wp2_with (fail)
          go_region
          all_goals
            go_wp2_with (fail)
            refine bodyPost_ret (v := .tuple #[.string ⟨#[]⟩, .iface 74 (.pointer (some ⟨w1.heap.size, 0, none⟩))]) (by simp [results, Tryz.results41, go_sem]) rfl ⟨_, some (_, _), rfl, (Se.Res.newAt rfl).drew, rfl, (HBy.out.alloc HBy.out.size _).drew⟩
        | true =>
          rw [hk] at HK
          have HA3 := hidIt (Hs.out hk)
          obtain ⟨x, y, rfl, rfl, hxy⟩ := okI_nat hk
          have hle := ok_le hxy
          have hs2 := ptS_size x y hle.1 hle.2
          have ep : ptS x y = (numS x ++ ⟨#[32]⟩) ++ (numS y ++ ⟨#[32]⟩) := by unfold ptS; simp only [ByteArray.append_assoc]; rfl
          simp only [Int.toNat_natCast] at HS
          rw [ep] at HS hs2
          have CX := hidIt (fun W t => impl_withBlank x W hle.1 t)
          have CY := hidIt (fun W t => impl_withBlank y W hle.2 t)
          clear hk hxy hle ep
          rw [ByteArray.size_append] at hs2
          generalize numS x ++ ⟨#[32]⟩ = tx at CX HS hs2
          generalize numS y ++ ⟨#[32]⟩ = ty at CY HS hs2
          generalize ktx (L.take i) = v at HS hs1 HDy HDx
          have q1 : ¬ 9223372036854775807 < tx.size + ty.size := by omega
          go_wp2_with (fail)
          refine (HK.out _).mono ?_
          rintro e w1 ⟨rfl, k⟩
          replace HBy := hidIt (HBy.out.trans (k.mono HBy.out.size))
          replace HDy := hidIt (HDy.out.kept k)
          replace BX := hidIt (BX.out.kept k)
          clear k
          have d0 := BX.out.c 0 (v := .int .i64 x) rfl
          have d1 := BX.out.c 1 (v := .int .i64 y) rfl
          have HTz := hidIt (HT.out.kept HBy.out)
          have HTd := hidIt (HTz.out.kept ((Below.refl w1.heap.size w1).drew))
          go_upto_region 9 with fail
          go_region_with (first
            | (go_at_call 63; first
              | ((with_reducible refine (CX.out _ HTd.out).mono ?_); rintro e wA ⟨rfl, kA⟩; have k := (Below.refl w1.heap.size w1).drew.trans kA; have HBA := hidIt (HBy.out.trans (k.mono HBy.out.size)); have HDA := hidIt (HDy.out.kept k); have BXA := hidIt (BX.out.kept k); have HTA := hidIt (HTz.out.kept k); clear k kA; have d1A := BXA.out.c 1 (v := .int .i64 y) rfl)
              | ((with_reducible refine (CY.out _ HTA.out).mono ?_); rintro e wB ⟨rfl, k⟩; have HBB := hidIt (HBA.out.trans (k.mono HBA.out.size)); have HDB := hidIt (HDA.out.kept k); clear k))
            | (go_at_call 62; refine (writeString_any _ _ _ (tx ++ ty) _ HDB.out (by rw [Array.length_toList, ByteArray.size_append]; show v.size + (tx.size + ty.size) ≤ _; omega)).mono ?_; rintro e wC ⟨rfl, hD, k⟩; have HDC := hidIt hD; have HBC := hidIt (HBB.out.trans k); clear hD k))
          all_goals
            go_wp2_with (fail)
            refine ⟨⟨i + 1, by simp, by omega, HA3, hidIt ?_, HBC⟩, by simp [intOf]; omega⟩
            rw [HS.out, ByteArray.data_append, Array.toList_append]
            exact HDC.out
      · have g2 : ¬ (i : Int) < (n : Int) := by omega
        have e : i = n := by omega
        subst e
        obtain ⟨rfl, rfl⟩ := hend.out HA.out
        have CS := hidIt (string_any _ _ _ _ HDx.out)
        go_wp2_with (fail)
        refine CS.out.mono ?_
        rintro e w3 ⟨rfl, k3⟩
        have HB3 := hidIt (HBx.out.trans k3)
        go_wp2_with (fail)
        refine bodyPost_ret (v := .tuple #[.string ⟨(ktx (L.take i)).data.toList.toArray⟩, .nilIface]) (by simp [results, Tryz.results41, go_sem]) rfl ⟨_, _, rfl, Se.Res.none _, rfl, HB3.out⟩
  · rw [keysT_no (keys_fit h4), keys_fit h4]
    have cM := hM.c
    have HW := hidIt (Below.refl w.heap.size w)
    generalize hn : L.length = n at *
    have g4 : (n : Int) > 4 := by omega
    clear h ht hN hM
    go_enter Tryz.func41, Tryz.ntmps41
    go_wp2_with (fail)
    go_region
    all_goals
      go_wp2_with (fail)
      refine bodyPost_ret (v := .tuple #[.string ⟨#[]⟩, .iface 74 (.pointer (some ⟨w.heap.size, 0, none⟩))]) (by simp [results, Tryz.results41, go_sem]) rfl ⟨_, some (_, _), rfl, (Se.Res.newAt rfl).drew, rfl, (HW.out.alloc HW.out.size _).drew⟩
end Go.Proofs.YtciikondckoboaaGreatDoor.Dd
namespace Go.Proofs.YtciikondckoboaaGreatDoor.Dd
open Go.ChangeShapes Go.WideShapes Go.ChangeAt Go.RowKit
open Cv Cu Sg
open Go.Proofs.YtciikondckoboaaGreatDoor.Bo (Box Box.new Box.newAt Box.kept Box.alloc Box.put Box.other Box.c Box.drew)
open Go.Proofs.YtciikondckoboaaGreatDoor.Nm (bs okB)
set_option linter.unusedVariables false
theorem box_beside {w w' : World} {b c : Nat} {cs : Array Value} (h : Box w b cs) (k : Only c w w') (hne : ¬ b = c) : Box w' b cs :=
  ⟨Nat.lt_of_lt_of_le h.lt k.size, fun i => by rw [k.cell (p := ⟨b, i, none⟩) h.lt hne]; exact h.at' i, fun i => by rw [k.frozen (p := ⟨b, i, none⟩) h.lt hne]; exact h.fr i⟩
theorem dsN_eq (z : ByteArray) (x y : Nat) : (hend (hrun (hrun 17 (nums (z ++ ⟨#[32]⟩))) (nums (ptS x y)))) = dsN z x y := by
  unfold dsN hashN
  rw [hrun_two]
  rfl
/-- The three steps of the hash, in letters. -/
theorem ds_steps (z : ByteArray) (x y : Nat) (hz : z.size ≤ 60) (hx : x ≤ 1099511627776) (hy : y ≤ 1099511627776) : ∃ h1 h2 : Nat,
    (∀ W b, One W b 17 → Calls Tryz.prog 51 #[.pointer (some ⟨b, 0, none⟩), .string (z ++ ⟨#[32]⟩)] W fun e w' => e = .returned (.tuple #[]) ∧ One w' b h1 ∧ Only b W w') ∧
    (∀ W b, One W b h1 → Tab W → 5 < b → Calls Tryz.prog 52 #[.pointer (some ⟨b, 0, none⟩), .agg #[.int .i64 x, .int .i64 y]] W fun e w' => e = .returned (.tuple #[]) ∧ One w' b h2 ∧ Only b W w') ∧
    (∀ W, Calls Tryz.prog 53 #[.agg #[.int .i64 h2]] W fun e w' => e = .returned (.int .i64 (dsN z x y)) ∧ Below W.heap.size W w') := by
  have q2 : (z ++ ⟨#[32]⟩).size ≤ 9223372036854775807 := by
    rw [ByteArray.size_append]
    have q0 : (⟨#[32]⟩ : ByteArray).size = 1 := rfl
    omega
  have l0 : 17 < 2147483647 := by decide
  have l1 : hrun 17 (nums (z ++ ⟨#[32]⟩)) < 2147483647 := hrun_lt _ _ l0
  refine ⟨_, _, fun W b o => text_any b 17 _ W o l0 q2, fun W b o t hb => point_hash b _ x y W o l1 hx hy t hb, fun W => ?_⟩
  rw [← dsN_eq]
  exact ended_any _ W (hrun_lt _ _ l1)
set_option maxRecDepth 100000 in
set_option maxHeartbeats 4000000 in
theorem impl_dsOf (z : ByteArray) (v : Value) (k1 k2 u r1 r2 t : Int) (eN : Addr) (w : World) (ht : Tab w) (hN : Se.At w 0 eN) (hv : ∃ a n c, v = .slice a n c) :
    Calls Tryz.prog 28 #[dv z v k1 k2 u r1 r2 t] w fun e w' => ∃ x r, e = .returned (.tuple #[.int .i64 (dsB z k1 k2), x]) ∧ Se.Res w' x r ∧ r.isNone = decide (0 ≤ dsB z k1 k2) ∧ Below w.heap.size w w' := by
  obtain ⟨a, n, cap, rfl⟩ := hv
  have CN := hidIt (fun W => Nm.impl_NameOk z W)
  have CP := hidIt (fun W => impl_PointOk k1 k2 W)
  have BA := hidIt (Box.new w (dc z (.slice a n cap) k1 k2 u r1 r2 t) 32)
  have HB : Hid (Below w.heap.size w (w.alloc (.cells (dc z (.slice a n cap) k1 k2 u r1 r2 t) 32))) := hidIt ((Below.refl w.heap.size w).alloc (Nat.le_refl _) _)
  have HT := hidIt ht
  have HN := hidIt hN
  clear ht hN
  cases h1 : okB (bs z) with
  | false =>
    rw [dsB_no (.inl h1)]
    rw [h1] at CN
    clear h1
    go_enter Tryz.func28, Tryz.ntmps28
    go_wp2_with (fail)
    refine (CN.out _).mono ?_
    rintro e w1 ⟨rfl, k⟩
    replace HB := hidIt (HB.out.trans (k.mono HB.out.size))
    clear k
    have cN := (HN.out.kept HB.out).c
    go_wp2_with (fail)
    go_region
    all_goals
      go_wp2_with (fail)
      refine bodyPost_ret (v := .tuple #[.int .i64 (-1), .iface 74 (.pointer (some ⟨w1.heap.size, 0, none⟩))]) (by simp [results, Tryz.results28, go_sem]) rfl ⟨_, some (_, _), rfl, (Se.Res.newAt rfl).drew, rfl, (HB.out.alloc HB.out.size _).drew⟩
  | true =>
    cases h2 : okI k1 k2 with
    | false =>
      rw [dsB_no (.inr h2)]
      rw [h1] at CN
      rw [h2] at CP
      clear h1 h2
      go_enter Tryz.func28, Tryz.ntmps28
      go_wp2_with (fail)
      refine (CN.out _).mono ?_
      rintro e w1 ⟨rfl, k⟩
      replace BA := hidIt (BA.out.kept k)
      replace HB := hidIt (HB.out.trans (k.mono HB.out.size))
      clear k
      have c2 := BA.out.c 2 (v := .int .i64 k1) rfl
      have c3 := BA.out.c 3 (v := .int .i64 k2) rfl
      go_wp2_with (fail)
      refine (CP.out _).mono ?_
      rintro e w2 ⟨rfl, k⟩
      replace HB := hidIt (HB.out.trans (k.mono HB.out.size))
      clear k c2 c3
      have cN := (HN.out.kept HB.out).c
      go_wp2_with (fail)
      go_region
      all_goals
        go_wp2_with (fail)
        refine bodyPost_ret (v := .tuple #[.int .i64 (-1), .iface 74 (.pointer (some ⟨w2.heap.size, 0, none⟩))]) (by simp [results, Tryz.results28, go_sem]) rfl ⟨_, some (_, _), rfl, (Se.Res.newAt rfl).drew, rfl, (HB.out.alloc HB.out.size _).drew⟩
    | true =>
      obtain ⟨x, y, rfl, rfl, hxy⟩ := okI_nat h2
      have hz := okB_size h1
      have hle := ok_le hxy
      rw [dsB_yes h1 h2]
      rw [h1] at CN
      rw [h2] at CP
      clear h1 h2 hxy
      obtain ⟨h1, h2, ct, cp, ce⟩ := ds_steps z x y hz hle.1 hle.2
      have CT := hidIt ct
      have CQ := hidIt cp
      have CE := hidIt ce
      clear ct cp ce
      generalize dsN z x y = d at CE ⊢
      have q0 : (⟨#[32]⟩ : ByteArray).size = 1 := rfl
      have q1 : ¬ 9223372036854775807 < z.size + 1 := by omega
      go_enter Tryz.func28, Tryz.ntmps28
      go_wp2_with (fail)
      refine (CN.out _).mono ?_
      rintro e w1 ⟨rfl, k⟩
      replace BA := hidIt (BA.out.kept k)
      replace HB := hidIt (HB.out.trans (k.mono HB.out.size))
      clear k
      have c2 := BA.out.c 2 (v := .int .i64 x) rfl
      have c3 := BA.out.c 3 (v := .int .i64 y) rfl
      go_wp2_with (fail)
      refine (CP.out _).mono ?_
      rintro e w2 ⟨rfl, k⟩
      replace BA := hidIt (BA.out.kept k)
      replace HB := hidIt (HB.out.trans (k.mono HB.out.size))
      clear k c2 c3
      go_wp2_with (fail)
      refine (newHasher_any _).mono ?_
      rintro e w3 ⟨rfl, k⟩
      replace BA := hidIt (BA.out.kept k)
      replace HB := hidIt (HB.out.trans (k.mono HB.out.size))
      clear k
      have hlt3 := BA.out.lt
      have hs3 := HB.out.size
      have HT3 := hidIt (HT.out.kept HB.out)
      have hb3 := HT3.out.lt
      have nb : ¬ w.heap.size = w3.heap.size := by omega
      have O3 : Hid (One (w3.alloc (.cells #[.int .i64 17] 86)) w3.heap.size 17) := hidIt (One.newAt rfl)
      have kA := (Below.refl w3.heap.size w3).alloc (Nat.le_refl _) (.cells #[.int .i64 17] 86)
      replace BA := hidIt (BA.out.kept kA)
      replace HB := hidIt (HB.out.trans (kA.mono HB.out.size))
      replace HT3 := hidIt (HT3.out.kept kA)
      clear kA
      have c0 := BA.out.c 0 (v := .string z) rfl
      go_wp2_with (fail)
      refine (CT.out _ _ O3.out).mono ?_
      rintro e w4 ⟨rfl, hO, hB⟩
      replace BA := hidIt (box_beside BA.out hB nb)
      replace HT3 := hidIt (HT3.out.only hB hb3)
      replace HB := hidIt (HB.out.trans (hB.below (B := w.heap.size) hs3 HB.out.size))
      replace O3 := hidIt hO
      clear hO hB c0
      have c2 := BA.out.c 2 (v := .int .i64 x) rfl
      have c3 := BA.out.c 3 (v := .int .i64 y) rfl
      go_wp2_with (fail)
      refine (CQ.out _ _ O3.out HT3.out hb3).mono ?_
      rintro e w5 ⟨rfl, hO, hB⟩
      replace HB := hidIt (HB.out.trans (hB.below (B := w.heap.size) hs3 HB.out.size))
      have o0 := hO.c0
      clear hO hB c2 c3 BA O3
      go_wp2_with (fail)
      refine (CE.out _).mono ?_
      rintro e w6 ⟨rfl, k⟩
      replace HB := hidIt (HB.out.trans (k.mono HB.out.size))
      clear k o0
      go_wp2_with (fail)
      refine bodyPost_ret (v := .tuple #[.int .i64 d, .nilIface]) (by simp [results, Tryz.results28, go_sem]) rfl ⟨_, _, rfl, Se.Res.none _, ?_, HB.out⟩
      have : (0 : Int) ≤ (d : Int) := by omega
      simp [this]
set_option maxRecDepth 100000 in
set_option maxHeartbeats 4000000 in
theorem impl_DsOf (z : ByteArray) (v : Value) (k1 k2 u r1 r2 t : Int) (eN : Addr) (w : World) (ht : Tab w) (hN : Se.At w 0 eN) (hv : ∃ a n c, v = .slice a n c) :
    Calls Tryz.prog 9 #[dv z v k1 k2 u r1 r2 t] w fun e w' => e = .returned (.int .i64 (dsB z k1 k2)) ∧ Below w.heap.size w w' := by
  have HB : Hid (Below w.heap.size w (w.alloc (.cells (dc z v k1 k2 u r1 r2 t) 32))) := hidIt ((Below.refl w.heap.size w).alloc (Nat.le_refl _) _)
  have CD := hidIt (impl_dsOf z v k1 k2 u r1 r2 t eN _ (ht.kept HB.out) (hN.kept HB.out) hv)
  obtain ⟨a, n, cap, rfl⟩ := hv
  clear ht hN
  go_enter Tryz.func9, Tryz.ntmps9
  go_wp2_with (fail)
  refine CD.out.mono ?_
  rintro e w1 ⟨x, r, rfl, _, _, k⟩
  replace HB := hidIt (HB.out.trans (k.mono HB.out.size))
  clear k CD
  go_wp2_with (fail)
  go_ret
  exact ⟨rfl, HB.out⟩
end Go.Proofs.YtciikondckoboaaGreatDoor.Dd
namespace Go.Proofs.YtciikondckoboaaGreatDoor.Se
open Go.RowKit Go.ChangeShapes
set_option linter.unusedVariables false
theorem star : "*" ++ "errors.errorString" = "*errors.errorString" := by decide
theorem row (u : TypeId) (h : Tryz.prog.typeName? 3 u = some "*errors.errorString") : u = 187 :=
  typeName_ptr_named (nm := "errors.errorString") (by rw [star]; kernel_rfl) (by kernel_rfl) (by decide) u (by rw [star]; exact h)
theorem cellsE : Tryz.prog.cellsOf 206 = 1 := by kernel_rfl
theorem cellsS : Tryz.prog.cellsOf 9 = 1 := by kernel_rfl
theorem at_of_var {w : World} {n : String} {g : Nat} {a : Addr} (hg : Tryz.prog.globalNamed n = some g) (h : w.var? Tryz.prog n = some #[.iface 187 (.pointer (some a))]) : At w g a := by
  unfold At
  simpa using World.var?_cell hg h 0
theorem var_kept {w w' : World} {n : String} {cs : Array Value} (h : w.var? Tryz.prog n = some cs) (k : Below w.heap.size w w') : w'.var? Tryz.prog n = some cs := by
  unfold World.var? at h ⊢
  cases hg : Tryz.prog.globalNamed n with
  | none => simp [hg] at h
  | some g =>
    simp only [hg, Option.bind_some] at h ⊢
    have hlt : g < w.heap.size := by
      rcases Nat.lt_or_ge g w.heap.size with h' | h'
      · exact h'
      · simp [Array.getElem?_eq_none h'] at h
    rw [k.block g hlt]
    exact h
theorem vars_nil {H : Type} (enc : TypeId × Value → H) {W : World} (sp : Nat → Bool) : DataW.TrodVars enc Tryz.prog W sp [] [] [] := rfl
theorem vars_cons {H : Type} (enc : TypeId × Value → H) {W : World} {n : String} {g : Nat} {x : Value} {ns : List String} {gs : List (DataW H)} {q : List MemPlace}
    (hg : Tryz.prog.globalNamed n = some g) (ht : (Tryz.prog.globals[g]?).map (·.type) = some 49) (h : W.var? Tryz.prog n = some #[x]) (ix : IsIface x) {sp : Nat → Bool} (r : DataW.TrodVars enc Tryz.prog W sp ns gs q) :
    DataW.TrodVars enc Tryz.prog W sp (n :: ns) (tok enc x :: gs) (.cell g 0 :: q) :=
  ⟨g, 49, #[x], 1, [], q, hg, ht, h, trod_held Tryz.underlying49 ix 0, r, rfl⟩
/-- The library's variable errors.errorType holds the handle of the type error. -/
def Typ (w : World) : Prop := w.cell? ⟨4, 0, none⟩ = some (.iface 147 (.agg #[.pointer (some ⟨9, 49, none⟩)]))
theorem Typ.kept {w w' : World} (h : Typ w) (k : Below w.heap.size w w') : Typ w' := by
  unfold Typ at h ⊢
  rw [k.cell (World.block_lt_of_cell? _ _ h)]
  exact h
theorem et : Tryz.prog.globalNamed "errors.errorType" = some 4 := by kernel_rfl
theorem rt : (Tryz.prog.cutTypes.find? (·.1 == "internal/reflectlite.rtype")).map (·.2) = some 147 := by kernel_rfl
theorem size : Tryz.prog.types.size = 218 := by kernel_rfl
theorem oneRow : ((List.range 218).filter fun t => Tryz.prog.rowNamed t [101, 114, 114, 111, 114]) = [49] := by kernel_rfl
theorem typ_of_met {W : World} {r : List (String × DataW Unit)} (h : handlesMet Tryz.prog (("errors.errorType", Rows.laid_errors_errorType) :: r) W) : Typ W := by
  obtain ⟨name, u, ty, e1, e2, e3, e4, e5⟩ := h _ (List.mem_cons_self ..)
  have en : name = [101, 114, 114, 111, 114] := (Option.some.inj e1).symm
  subst en
  obtain rfl := Option.some.inj (rt.symm.trans e2)
  have hm : ty ∈ (List.range 218).filter fun t => Tryz.prog.rowNamed t [101, 114, 114, 111, 114] := List.mem_filter.2 ⟨List.mem_range.2 (by rw [← size]; exact e3), e4⟩
  rw [oneRow] at hm
  obtain rfl := List.mem_singleton.1 hm
  have hh : typeHandle Tryz.prog 49 = .pointer (some ⟨9, 49, none⟩) := by kernel_rfl
  rw [hh] at e5
  unfold Typ
  simpa using World.var?_cell et e5 0
end Go.Proofs.YtciikondckoboaaGreatDoor.Se
