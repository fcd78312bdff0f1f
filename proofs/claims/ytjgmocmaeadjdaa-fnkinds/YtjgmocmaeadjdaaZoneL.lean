/- Plain: the records of the zone that the model draws. -/
import Derived.Test.YtjgmocmaeadjdaaMemR
namespace Go.Proofs.Ytjgmocmaeadjdaa.ZoneL
open Go.RowKit Go.Proofs.Ytjgmocmaeadjdaa.MemR

def rS (t h : Int) : Rec := ⟨⟨#[99, 111, 109]⟩, 6, t, h, ⟨#[]⟩, ⟨#[]⟩⟩

def rV (t : Int) : Rec := ⟨⟨#[99, 111, 109]⟩, 2, t, 0, ⟨#[110, 115, 46, 99, 111, 109]⟩, ⟨#[]⟩⟩

def rA (t : Int) : Rec := ⟨⟨#[110, 115, 46, 99, 111, 109]⟩, 1, t, 2, ⟨#[]⟩, ⟨#[]⟩⟩

def rX (t : Int) : Rec := ⟨⟨#[101, 120, 46, 99, 111, 109]⟩, 2, t, 0, ⟨#[110, 115, 46, 101, 120, 46, 99, 111, 109]⟩, ⟨#[]⟩⟩

def rY (t : Int) : Rec := ⟨⟨#[110, 115, 46, 101, 120, 46, 99, 111, 109]⟩, 1, t, 3, ⟨#[]⟩, ⟨#[]⟩⟩

def rW : Rec := ⟨⟨#[119, 119, 119, 46, 99, 111, 109]⟩, 5, 9, 0, ⟨#[97, 46, 111, 114, 103]⟩, ⟨#[]⟩⟩

def rT : Rec := ⟨⟨#[116, 46, 99, 111, 109]⟩, 16, 7, 0, ⟨#[]⟩, ⟨#[104, 105]⟩⟩

def rB : Rec := ⟨⟨#[98, 46, 97, 46, 99, 111, 109]⟩, 1, 9, 8, ⟨#[]⟩, ⟨#[]⟩⟩

/-- The times to live that are drawn, and half of each. -/
def ts : List (Int × Int) := [(5, 2), (60, 30), (300, 150)]

/-- The records as they are drawn. -/
def zb (t h : Int) (a b c : Bool) : List Rec := [rS t h, rV t, rA t] ++ (if a then [rX t, rY t] else []) ++ (if b then [rW] else []) ++ (if c then [rT, rB] else [])

/-- The records in order. -/
def zs (t h : Int) (a b c : Bool) : List Rec := [rV t, rS t h] ++ (if c then [rB] else []) ++ (if a then [rX t, rY t] else []) ++ [rA t] ++ (if c then [rT] else []) ++ (if b then [rW] else [])

end Go.Proofs.Ytjgmocmaeadjdaa.ZoneL
